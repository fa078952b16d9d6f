/- Texts that were built one behind the other, joined; what RestStates does not reach is left out. -/
import Derived.Test.YtbcacebifpagpagGreatK4RestStates
import Derived.RangeFuncNested
import Derived.OwnWalkIn
import Derived.ArgAppend
import Derived.Lib.QuietBelowIn
import Derived.Sort.BigQuietIn
import Derived.Scope
import Derived.RangeFuncLeaves
import Derived.Test.YtbcacebifpagpagGreatChecked
import Derived.WideKeyEntry
import Derived.DeepKeys5
import Derived.KernelRfl
import Derived.Below
set_option maxHeartbeats 8000000
set_option maxRecDepth 100000
set_option linter.unusedVariables false
namespace Go.Proofs.YtbcacebifpagpagGreat
open _root_.Go.Proofs.Tryz
open Go.RowKit Go.Shelf
attribute [local go_sem] Oper.semAt_some
theorem Tu(p:Pl)(w:World)(hp:p.At w):
  Calls prog 142 #[p.val] w λe w'=>∃v,e = .returned (.tuple #[v,.int .i64 (iy p)])/\w'.ownsRow w.heap.size 3 1 v (Vo p).length ((Vo p).map (Value.int .i64))/\Below w.heap.size w w':=by
 have leb:=hp.leb;have T:=hp.capb;have H:Below w.heap.size w (w.alloc (.cells #[.slice p.ab p.nb p.cb,.slice p.sa p.ns p.cs] 25)):=(Below.refl w.heap.size w).alloc nlr _;obtain⟨i1,hj,ad,ah,ak⟩:=info_parts Ex;refine(callsIn_wide (n:=5)).1 ?_;refine callsIn_of_wp_marks func142 rfl trivial ?_ rfl;simp only[Pl.val,ntmps142,List.size_toArray,List.length_cons,List.length_nil,Nat.reduceAdd,Nat.reduceSub,Array.replicate_succ,Array.replicate_zero,List.push_toArray,List.append_toArray,Xqx,Xqz];by_cases h0:iy p=0;rotate_left
 .gi_wp2_with(refine⟨trivial,?_⟩;gi_at_call 61;refine(callsIn_wide.2 (yt p _ (hp.below H))).mono ?_;rintro e E ⟨rfl,Y⟩)
  rw[aa0 h0];exact⟨_,results_tmp2 rfl _ _ _,_,rfl,World.ownsRow_nil _ _ _ _,H.trans (Y.mono (by simp))⟩
 have HC:Calls prog 61 #[p.val] (w.alloc (.cells #[.slice p.ab p.nb p.cb,.slice p.sa p.ns p.cs] 25)) λe w'=>e = .returned (.int .i64 0)/\Below (w.heap.size+1) (w.alloc (.cells #[.slice p.ab p.nb p.cb,.slice p.sa p.ns p.cs] 25)) w':=by
  have:=yt p _ (hp.below H);rw[h0,World.size_alloc] at this;exact this
 have R:=Mp h0;have bo:=R.nb6;have H0:=hid h0;clear h0 R
 gi_wp2_with(first
  | (refine⟨trivial,?_⟩;gi_at_call 61;refine(callsIn_wide.2 HC).mono ?_;rintro e E ⟨rfl,Y⟩;have a1:=Y.size;have c0:E.cell? ⟨w.heap.size,0,none⟩=some (.slice p.ab p.nb p.cb):=(Y.cell (p:=⟨w.heap.size,0,none⟩) (by simp)).trans (by simp);rw[World.size_alloc] at a1)
  | (gi_at_make;refine wpListIn_make_own _ rfl _ _ 23 rfl (w.heap.size+1) 3 i1 (.int .i64 0) 1 underlying23 hj ad ah .i64 .i64 _ p.nb rfl rfl rfl (by rw[ak];omega) (by unfold maxLen;omega) (by omega) ?_;intro a S F;have V:Below (w.heap.size+1) (w.alloc (.cells #[.slice p.ab p.nb p.cb,.slice p.sa p.ns p.cs] 25)) a:=Y.grown F (by omega) (by intro k hk;cases hk);have z:=V.size;rw[World.size_alloc] at z;have c0:a.cell? ⟨w.heap.size,0,none⟩=some (.slice p.ab p.nb p.cb):=(V.cell (p:=⟨w.heap.size,0,none⟩) (by simp)).trans (by simp);have c1:a.cell? ⟨w.heap.size,1,none⟩=some (.slice p.sa p.ns p.cs):=(V.cell (p:=⟨w.heap.size,1,none⟩) (by simp)).trans (by simp);have bc:w.heap.size<a.heap.size:=by omega)
  | (refine⟨trivial,?_⟩;gi_at_call 102;refine(Dp Fence.wide _ trivial rfl p true _).mono ?_;rintro e w' ⟨rfl,rfl⟩))
 obtain⟨t,ar,s3,bO,an,bF,cP,ag⟩:∃t,((a.alloc (.cells #[(.slice (some ⟨E.heap.size,0,none⟩) 0 p.nb)] 23)).alloc (.cells #[.slice p.ab p.nb p.cb,.slice p.sa p.ns p.cs] 25)).alloc (.cells #[.bool true] 4)=t/\t.heap.size=a.heap.size+3/\_root_.Go.Boxed t a.heap.size 23 (.slice (some ⟨E.heap.size,0,none⟩) 0 p.nb)/\t.ownsRow (w.heap.size+1) 3 1 (.slice (some ⟨E.heap.size,0,none⟩) 0 p.nb) 0 []/\_root_.Go.Boxed t (a.heap.size+1+1) 4 (.bool true)/\t.cell? ⟨a.heap.size+1,0,none⟩=some (.slice p.ab p.nb p.cb)/\Below (w.heap.size+1) (w.alloc (.cells #[.slice p.ab p.nb p.cb,.slice p.sa p.ns p.cs] 25)) t:=by
  refine⟨_,rfl,by simp,((_root_.Go.Boxed.new a 23 _).alloc _).alloc _,((S.alloc _).alloc _).alloc _,?_,?_,((V.alloc z _).alloc (by simp;omega) _).alloc (by simp;omega) _⟩
  .have:=_root_.Go.Boxed.new ((a.alloc (.cells #[(.slice (some ⟨E.heap.size,0,none⟩) 0 p.nb)] 23)).alloc (.cells #[.slice p.ab p.nb p.cb,.slice p.sa p.ns p.cs] 25)) 4 (.bool true)
   rwa[World.size_alloc,World.size_alloc] at this
  have:=((Blk.new (a.alloc (.cells #[(.slice (some ⟨E.heap.size,0,none⟩) 0 p.nb)] 23)) #[.slice p.ab p.nb p.cb,.slice p.sa p.ns p.cs] 25).alloc (.cells #[.bool true] 4)).cell (j:=0) (by simp)
  rwa[World.size_alloc] at this
 have HP:Hid (∀P,Below (w.heap.size+1) (w.alloc (.cells #[.slice p.ab p.nb p.cb,.slice p.sa p.ns p.cs] 25)) P->se P p.ab p.nb p.zb):=λP h=>(hp.bins.below H).below (by rw[World.size_alloc];exact h);rw[ar];clear Y c0 c1 S F ar;refine wpIn_rangeFunc_ownG rfl (by decide) (gf:=149) (lb:=#[.pointer (some ⟨a.heap.size+1,0,none⟩),.pointer (some ⟨a.heap.size+1+1,0,none⟩)]) rfl trivial (enters_of func149 (by kernel_rfl) rfl)
  (Hm Fence.wide _ trivial rfl (by decide) (a.heap.size+1) (a.heap.size+1+1) (w.heap.size+1) p true t (by omega) (by omega) (by omega) cP bF.cell leb T (λP h=>HP.out P (ag.trans h))) Fy (Fx (by omega) (by omega)) brf (λ_=>rfl)
  (λpre W=>(∃v,_root_.Go.Boxed W a.heap.size 23 v/\W.ownsRow (w.heap.size+1) 3 1 v pre.length (pre.map (Value.int .i64))/\True)/\_root_.Go.Boxed W (a.heap.size+1+1) 4 (.bool true)/\Below (w.heap.size+1) (w.alloc (.cells #[.slice p.ab p.nb p.cb,.slice p.sa p.ns p.cs] 25)) W)
  (λ_ _ _=>False)
  (OwnFrom.and (Own.from (holdsRow_own (w.heap.size+1) a.heap.size 23 3 1 (λpre:List Int=>pre.length) (λpre=>pre.map (Value.int .i64)) (λ_ _=>True)) _) (OwnFrom.and (Own.from (boxed_own _ _ _) _) (ownFrom_below (by simp) (by omega))))
  (λ_ _ _ _ _ hs _ _=>hs)
  ⟨⟨_,bO,an,trivial⟩,bF,ag⟩
  (λx=>{ tmps:=#[.agg #[.slice p.ab p.nb p.cb,.slice p.sa p.ns p.cs],.pointer (some ⟨w.heap.size,0,none⟩),.slice none 0 0,.int .i64 0,.int .i64 0,.pointer (some ⟨a.heap.size,0,none⟩),.int .i64 x,undef,.agg #[.slice p.ab p.nb p.cb,.slice p.sa p.ns p.cs],.int .i64 0,.int .i64 0,.bool false,undef,.pointer (some ⟨w.heap.size,0,none⟩),.slice p.ab p.nb p.cb,.int .i64 p.nb,(.slice (some ⟨E.heap.size,0,none⟩) 0 p.nb),.agg #[.slice p.ab p.nb p.cb,.slice p.sa p.ns p.cs],.func (.func 149) #[] #[.pointer (some ⟨a.heap.size+1,0,none⟩),.pointer (some ⟨a.heap.size+1+1,0,none⟩)],.int .i64 x,undef,undef,undef,undef,undef,undef,undef,undef,undef,undef,undef,undef],defers:=[] }) ?assign ?body ?done ?stop
 case assign =>
  intro l x W K M
  gi_wp2
  exact M
 case body =>
  rintro l pre x W ⟨⟨v,r,b,-⟩,o,d⟩ a9;have hc:=r.cell
  gi_wp2_with(gi_at_builtin;refine wpListIn_append_own _ rfl _ _ 23 rfl (w.heap.size+1) 3 i1 (.int .i64 0) 1 8 underlying23 hj ad ah ak rfl (by decide) _ _ _ rfl (b.alloc _) ⟨W.heap.size,0,none⟩ 1 1 [.int .i64 x] rfl rfl (cell_one_new _ _ _) (by simp[Value.oneCell']) (by unfold maxLen;omega) (by omega) (by have:=d.size;simp at this ⊢;omega) ?_;intro v' w5 g i _;obtain⟨g',az,rfl⟩:=ownsRow_succ g;obtain⟨L,U,y,G,m⟩:=r.appended (by decide) b (by have:=d.size;simpa using this) z g i;have a2:=L.cell;have a0:=L.frozen;have J:=(o.alloc _).kept i (o.not_row (by decide) b))
  refine⟨G.from _,⟨m,λu hu => ?_⟩,⟨_,U,by simpa using y,trivial⟩,J.other (by omega) _,d.trans m⟩;rw[o.cell] at hu;cases hu;exact(J.other (by omega) _).cell
 case done =>
  rintro D ys f hD rfl ⟨⟨v,r,b,-⟩,-,d⟩ M;have c0:f.cell? ⟨w.heap.size,0,none⟩=some (.slice p.ab p.nb p.cb):=(d.cell (p:=⟨w.heap.size,0,none⟩) (by simp)).trans (by simp);have c1:f.cell? ⟨w.heap.size,1,none⟩=some (.slice p.sa p.ns p.cs):=(d.cell (p:=⟨w.heap.size,1,none⟩) (by simp)).trans (by simp);have bh:w.heap.size<f.heap.size:=by have:=d.size;simp at this;omega
  gi_wp2_with(refine⟨trivial,?_⟩;gi_at_call 102;refine(Dp Fence.wide _ trivial rfl p false _).mono ?_;rintro e w' ⟨rfl,rfl⟩)
  have bm:=r.lt;obtain⟨q,ao,s5,bO,al,bF,cP,aq,ba⟩:∃q,(f.alloc (.cells #[.slice p.ab p.nb p.cb,.slice p.sa p.ns p.cs] 25)).alloc (.cells #[.bool false] 4)=q/\q.heap.size=f.heap.size+2/\_root_.Go.Boxed q a.heap.size 23 v/\q.ownsRow (w.heap.size+1) 3 1 v (frL p true p.nb).length ((frL p true p.nb).map (Value.int .i64))/\_root_.Go.Boxed q (f.heap.size+1) 4 (.bool false)/\q.cell? ⟨f.heap.size,0,none⟩=some (.slice p.ab p.nb p.cb)/\Below (w.heap.size+1) (w.alloc (.cells #[.slice p.ab p.nb p.cb,.slice p.sa p.ns p.cs] 25)) q/\q.heap[D]?=some (.deferred (some [])):=by
   refine⟨_,rfl,by simp,(r.alloc _).alloc _,(b.alloc _).alloc _,?_,?_,(d.alloc (by omega) _).alloc (by simp;omega) _,?_⟩
   .have:=_root_.Go.Boxed.new (f.alloc (.cells #[.slice p.ab p.nb p.cb,.slice p.sa p.ns p.cs] 25)) 4 (.bool false)
    rwa[World.size_alloc] at this
   .exact((Blk.new f #[.slice p.ab p.nb p.cb,.slice p.sa p.ns p.cs] 25).alloc (.cells #[.bool false] 4)).cell (j:=0) (by simp)
   have au:=(Qkq M).1;exact((((Below.refl f.heap.size f).alloc nlr _).alloc (by simp) _).block D au).trans M
  have au:=(Qkq M).1;have bn:=Nk p p.nb;rw[ao];clear r b d M c0 c1 ao ag;refine wpIn_rangeFunc_ownG rfl (by decide) (gf:=149) (lb:=#[.pointer (some ⟨f.heap.size,0,none⟩),.pointer (some ⟨f.heap.size+1,0,none⟩)]) rfl trivial (enters_of func149 (by kernel_rfl) rfl)
   (Hm Fence.wide _ trivial rfl (by decide) f.heap.size (f.heap.size+1) (w.heap.size+1) p false q (by omega) (by omega) (by omega) cP bF.cell leb T (λP h=>HP.out P (aq.trans h))) Fy (Fx (by omega) (by omega)) brf (λ_=>rfl)
   (λpre W=>(∃v,_root_.Go.Boxed W a.heap.size 23 v/\W.ownsRow (w.heap.size+1) 3 1 v (frL p true p.nb++pre).length ((frL p true p.nb++pre).map (Value.int .i64))/\True)/\_root_.Go.Boxed W (f.heap.size+1) 4 (.bool false)/\Below (w.heap.size+1) (w.alloc (.cells #[.slice p.ab p.nb p.cb,.slice p.sa p.ns p.cs] 25)) W/\W.heap[D]?=some (.deferred (some [])))
   (λ_ _ _=>False)
   (OwnFrom.and (Own.from (holdsRow_own (w.heap.size+1) a.heap.size 23 3 1 (λpre:List Int=>(frL p true p.nb++pre).length) (λpre=>(frL p true p.nb++pre).map (Value.int .i64)) (λ_ _=>True)) _) (OwnFrom.and (Own.from (boxed_own _ _ _) _) (OwnFrom.and (ownFrom_below (by simp) (by omega)) (λs A B row hs hg hr=>(hg.block D (Qkq hs).1 (λe=>by have:=(hr D e.symm).1;omega)).trans hs))))
   (λ_ _ _ _ _ hs _ _=>hs)
   ⟨⟨_,bO,by simpa using al,trivial⟩,bF,aq,ba⟩
   (λx=>{ tmps:=#[.agg #[.slice p.ab p.nb p.cb,.slice p.sa p.ns p.cs],.pointer (some ⟨w.heap.size,0,none⟩),.slice none 0 0,.int .i64 0,.int .i64 0,.pointer (some ⟨a.heap.size,0,none⟩),undef,.int .i64 x,.agg #[.slice p.ab p.nb p.cb,.slice p.sa p.ns p.cs],.int .i64 0,.int .i64 0,.bool false,undef,.pointer (some ⟨w.heap.size,0,none⟩),.slice p.ab p.nb p.cb,.int .i64 p.nb,(.slice (some ⟨E.heap.size,0,none⟩) 0 p.nb),.agg #[.slice p.ab p.nb p.cb,.slice p.sa p.ns p.cs],.func (.func 149) #[] #[.pointer (some ⟨a.heap.size+1,0,none⟩),.pointer (some ⟨a.heap.size+1+1,0,none⟩)],undef,undef,undef,undef,undef,.agg #[.slice p.ab p.nb p.cb,.slice p.sa p.ns p.cs],.func (.func 149) #[] #[.pointer (some ⟨f.heap.size,0,none⟩),.pointer (some ⟨f.heap.size+1,0,none⟩)],.int .i64 x,undef,undef,undef,undef,undef],defers:=[] }) ?assign2 ?body2 ?done2 ?stop2
  case assign2 =>
   intro l x W K M
   gi_wp2
   exact M
  case body2 =>
   rintro l pre x W ⟨⟨v,r,b,-⟩,o,d,a7⟩ a9;have hc:=r.cell;have bl:(frL p true p.nb++pre).length<=2*p.nb:=by rw[List.length_append];omega
   gi_wp2_with(gi_at_builtin;refine wpListIn_append_own _ rfl _ _ 23 rfl (w.heap.size+1) 3 i1 (.int .i64 0) 1 8 underlying23 hj ad ah ak rfl (by decide) _ _ _ rfl (b.alloc _) ⟨W.heap.size,0,none⟩ 1 1 [.int .i64 x] rfl rfl (cell_one_new _ _ _) (by simp[Value.oneCell']) (by unfold maxLen;omega) (by omega) (by have:=d.size;simp at this ⊢;omega) ?_;intro v' w5 g i _;obtain⟨g',az,rfl⟩:=ownsRow_succ g;obtain⟨L,U,y,G,m⟩:=r.appended (by decide) b (by have:=d.size;simpa using this) z g i;have a2:=L.cell;have a0:=L.frozen;have J:=(o.alloc _).kept i (o.not_row (by decide) b))
   simp only[List.length_append] at U y G m;refine⟨G.from _,⟨m,λu hu => ?_⟩,⟨_,U,by simpa[Nat.add_assoc] using y,trivial⟩,J.other (by omega) _,d.trans m,G.same D _ a7 rfl⟩;rw[o.cell] at hu;cases hu;exact(J.other (by omega) _).cell
  case done2 =>
   rintro X ys W a8 rfl ⟨⟨v,r,b,-⟩,-,d,ap⟩ aj;have hc:=r.cell
   gi_wp2
   refine⟨by simp,.inl ⟨_,_,rfl,run_takeDeferred aj,?_⟩⟩;have a3:D≠X:=by omega
   have Q:(W.putObj X (.deferred none)).heap[D]?=some (.deferred (some [])):=((grownBy_putObj' W X (.deferred none)).block D (Qkq ap).1 (λe=>a3 (by cases e;rfl))).trans ap;refine⟨by simp,.inl ⟨_,_,rfl,run_takeDeferred Q,?_⟩⟩;have y:=ownsRow_putObj (ownsRow_putObj b (.deferred none) aj rfl) (.deferred none) Q rfl;have a5:Below (w.heap.size+1) (w.alloc (.cells #[.slice p.ab p.nb p.cb,.slice p.sa p.ns p.cs] 25)) (W.putObj X (.deferred none)):=d.trans (belowK_b (w:=q) (by omega) W X _ _ a8 aj rfl rfl);have m:=a5.trans (belowK_b (w:=t) (by omega) (W.putObj X (.deferred none)) D _ (.deferred none) hD Q rfl rfl);rw[H0.out,Rx H0.out];exact⟨_,results_tmp2 rfl _ _ _,_,rfl,Za y (Nat.le_succ _),H.trans (m.mono (by omega))⟩
  case stop2 =>
   rintro D c pre W _ _ h _;exact h.elim
 case stop =>
  rintro D c pre W _ _ h _;exact h.elim
open Go.Sort
theorem V5(B:Nat)(x but:Int)(w:World)(b:B<w.heap.size)(c:w.cell? ⟨B,0,none⟩=some (.int .i64 but)):
  Calls prog 144 #[.int .i64 x,.pointer (some ⟨B,0,none⟩)] w λe a=>e = .returned (.bool (x==but))/\Below w.heap.size w a:=by
 go_enter func144,ntmps144;go_wp2_with fail;go_ret;exact⟨rfl,Below.refl _ _⟩
def I7(s:St)(o l:Nat)(n:Int)(av:Int->Int)(F:List Int)(A BX BL g k:Nat)(wk:World):Prop :=
 ∃x:St,er s o l n (Tk.go av n (F.take k)) x/\ai A wk x/\Blk wk BX 31 7 (λj=>x.cells.getD j default)/\Blk wk g 3 F.length (λj => .int .i64 (F.getD j 0))/\(x.os.z o).ls.a=some ⟨BL,0,none⟩
theorem Xu{F:List Int}{k:Nat}(a:k<F.length):F.take (k+1)=F.take k++[F.getD k 0]:=by
 rw[List.take_add_one];simp[List.getD,List.getElem?_eq_getElem a]
theorem Yy{F:List Int}{k:Nat}(a:k<F.length):F.getD k 0∈F:=by
 simp[List.getD,List.getElem?_eq_getElem a]
theorem Dm{p:Pl}{s:St}{b g:Nat}(h:ag p s=0)(a:b<p.nb)(c:g<p.ns):la p s b g=0/\rj p s b g=ar s b g:=by
 have e:la p s b g=0:=by unfold la;rw[if_pos h,bq (by omega),bq (by omega)];rfl
 exact⟨e,by unfold rj;rw[if_pos e];rfl⟩
theorem V8{p:Pl}{s:St}{b g:Nat}(r:au p s)(a:b<p.nb)(c:g<p.ns):0<=ar s b g/\ar s b g<=200:=by
 have f:=r.fm;refine⟨(km (r.goods g c)).2 b a,?_⟩;have d:=f.sh.num b (by rw[f.sh.n];exact a) g c;have h:=(mr (s:=s) (b:=b) (g:=g) f.holdN).1;have e:=(jq (s:=s) (b:=b) (g:=g) f.moveN).1;unfold ar;omega
theorem Kc(p:Pl)(s:St)(order line n but:Int)(w:World)(hp:p.At w)(hs:s.At w):
  Calls prog 96 #[p.val,s.val,.int .i64 order,.int .i64 line,.int .i64 n,.int .i64 but] w λe q=>∃x:St,e = .returned (.tuple #[x.val,.int .i64 (Bl p s order line n but),.int .i64 (ew p s order line n but)])/\x.At q/\zd p s order line n but x/\(ew p s order line n but=0->ai w.heap.size q x)/\Below w.heap.size w q:=by
 obtain⟨L,hW,be,X0,K0,Z0⟩:∃W,((((w.alloc (.cells #[.slice p.ab p.nb p.cb,.slice p.sa p.ns p.cs] 25)).alloc (.cells s.cells 31)).alloc (.cells #[.int .i64 but] 3)).alloc (.cells #[.slice .none 0 0,.slice .none 0 0,.slice .none 0 0,.slice .none 0 0,.slice .none 0 0,.slice .none 0 0,.slice .none 0 0] 31))=W/\Below w.heap.size w W/\lq W w.heap.size (w.heap.size+1) p s/\Blk W (w.heap.size+2) 3 1 (λ_ => .int .i64 but)/\Blk W (w.heap.size+3) 31 7 (λ_ => .slice .none 0 0):=
  ⟨_,rfl,((js _ _ _).alloc (by simp;omega) _).alloc (by simp;omega) _,((nk w p s _ _).below (brf.alloc nlr _)).below (brf.alloc nlr _),((Blk.mk' (cur:=#[.int .i64 but]) (by simp) rfl).congr (λj hj=>by match j,hj with|0,_=>rfl)).alloc _,(Blk.mk' (cur:=#[.slice .none 0 0,.slice .none 0 0,.slice .none 0 0,.slice .none 0 0,.slice .none 0 0,.slice .none 0 0,.slice .none 0 0]) (by simp) rfl).congr (λj hj=>by match j,hj with|0,_=>rfl|1,_=>rfl|2,_=>rfl|3,_=>rfl|4,_=>rfl|5,_=>rfl|6,_=>rfl)⟩
 have HC:Hid (∀J,Below L.heap.size L J->lq J w.heap.size (w.heap.size+1) p s/\p.At J/\s.At J/\Below w.heap.size w J/\Blk J (w.heap.size+3) 31 7 (λ_ => .slice .none 0 0)/\Blk J (w.heap.size+2) 3 1 (λ_ => .int .i64 but)):=λJ h=>⟨X0.below h,(hp.below be).below h,(hs.below be).below h,be.trans (h.mono be.size),Z0.below h,K0.below h⟩;have HW:Hid ((((w.alloc (.cells #[.slice p.ab p.nb p.cb,.slice p.sa p.ns p.cs] 25)).alloc (.cells #[.slice s.on.a s.on.n s.on.c,.slice s.os.a s.os.n s.os.c,.slice s.hs.a s.hs.n s.hs.c,.slice s.ms.a s.ms.n s.ms.c,.slice s.si.a s.si.n s.si.c,.slice s.so.a s.so.n s.so.c,.slice s.sf.a s.sf.n s.sf.c] 31)).alloc (.cells #[.int .i64 but] 3)).alloc (.cells #[.slice .none 0 0,.slice .none 0 0,.slice .none 0 0,.slice .none 0 0,.slice .none 0 0,.slice .none 0 0,.slice .none 0 0] 31)=L):=hW;have leb:=hp.leb;have cw:=hp.capb;have capb:=cw;have les:=hp.les;have caps:=hp.caps;have gv:=Z0.lt;unfold maxLen at capb caps;clear hW X0 Z0 K0 hp hs;unfold Pl.val St.val;go_enter func96,ntmps96;go_wp2_with fail;rw[HW.out];obtain⟨X,u,r,t,A,kb⟩:=HC.out L brf;refine(Nb p s order line n but L u r).mono ?_;rintro e w1 ⟨rfl,hB⟩;clear X u r t A kb HW;obtain⟨⟨⟨l1,d0,d1⟩,l2,c0,c1,c2,c3,c4,c5,c6⟩,u,r,t,A,kb⟩:=HC.out w1 hB;by_cases hE:ew p s order line n but=0;rotate_left
 .have i:Hid (Bl p s order line n but=0):=if_neg hE;clear c0 c1 c2 c3 c4 c5 c6 u r kb;obtain⟨zl,fe,e2,gc,zc1,ff,zc2,gm,zc3,e3,zc4,ga,zc5,fq,fs⟩:=z7 A;go_wp2_with fail;have KZ:=n7b A;have aw:=n7w (b:=w.heap.size+3) t (by omega);unfold set7 at KZ aw;obtain⟨b0,cg,ca,cl,bw,cu,cd⟩:=cn KZ;refine Xzq (v := .tuple #[l8.val,.int .i64 0,.int .i64 (ew p s order line n but)]) (by simp[results,results96,go_sem,l8,St.val,b0,cg,ca,cl,bw,cu,cd]) rfl ?_;exact⟨l8,by rw[i.out];rfl,vy _,⟨λh=>absurd h hE,λ_=>⟨rfl,rfl,rfl,rfl,rfl,rfl,rfl⟩⟩,λh=>absurd h hE,aw⟩
 have HE:=hid hE;have E:Hid (ng p s order line n but):=allocIn hE;rw[hE];clear hE;have V:Hid (au p s):=ed E.out.st;have de:Hid (iy p=0):=(uq V.out.fm.sh0).1;obtain⟨o,rfl⟩:=Qzz E.out.o0;obtain⟨l,rfl⟩:=Qzz E.out.l0;have ho:o<s.os.n:=E.out.on;have hl:l<(s.os.z o).ls.n:=E.out.ln;have nb1:=V.out.fm.sh.pl.nb1;have nb6:=V.out.fm.sh.pl.nb6;have dh:=hid u;clear u r c0 c1 c2 c3 c4 c5 c6 t A;go_wp2_with fail;refine(Tu p w1 dh.out).mono ?_;rintro e w2 ⟨v,rfl,B,ap⟩;clear l1 d0 d1 l2 dh;rw[Rx de.out] at B;have d2:Hid ((fu p).length=p.nb):=Tl p;have hv:v ≠ .slice none 0 0:=by
  rintro rfl;rcases B.2 with⟨_,h0⟩|⟨g2,g0,gw,h,_⟩
  .have:=d2.out;omega
  cases h
 obtain⟨g,c,rfl,e8,e9,hg,hk⟩:=Blk.ofOwns B hv;have dd:Blk w2 g 3 (fu p).length (λj => .int .i64 ((fu p).getD j 0)):=by
  have h:=hk.less (m:=(fu p).length) (by omega);refine h.congr λj hj => ?_;simp[List.getD,List.getElem?_eq_getElem hj]
 have d9:Hid (Calls prog 143 #[.slice (some ⟨g,0,none⟩) (fu p).length c,.func (.func 144) #[] #[.pointer (some ⟨w.heap.size+1+1,0,none⟩)]] w2 λe q=>e = .returned (.slice (some ⟨g,0,none⟩) (fa p but).length c)/\Blk q g 3 (fa p but).length (λj => .int .i64 ((fa p but).getD j 0))/\Below w1.heap.size w2 q):=
  X7 144 #[.pointer (some ⟨w.heap.size+1+1,0,none⟩)] (λx=>x==but) w1.heap.size g c (fu p) w2 hg ap.size e8 e9 dd (enters_of func144 (by kernel_rfl) rfl) (λx wz A=>by
   have Y:=kb.lt;exact V5 (w.heap.size+1+1) x but wz (Xzx Y (Qzx ap.size A.size)) ((A.cell (p:=⟨w.heap.size+2,0,none⟩) Y).trans ((ap.cell (p:=⟨w.heap.size+2,0,none⟩) Y).trans (kb.k 0))))
 rw[de.out];clear B hv hk dd;go_wp2_with fail;refine d9.out.mono ?_;rintro e w3 ⟨rfl,b7,d6⟩;have a4:=ap.trans d6;have ao:=hB.trans (a4.mono hB.size);have fv:=a4.size;have d8:=b7.lt;have dw:=hid b7;have hb:(fa p but).length<=6:=by
  have:=d2.out;have:=List.length_filter_le (λb => !(b==but)) (fu p);unfold fa;omega
 have hf:(fa p but).length<=c:=by
  have:=List.length_filter_le (λb => !(b==but)) (fu p);unfold fa;omega
 clear d9 b7 kb ap d6 a4 hB;obtain⟨⟨⟨l1,d0,d1⟩,l2,c0,c1,c2,c3,c4,c5,c6⟩,u,r,t,A,kb⟩:=HC.out w3 ao;have ec:Hid _:=nd p s w3 r V.out.fm;clear u r t A kb;go_wp2_with fail;refine Calls.mono ec.out ?_;rintro e D ⟨x0,rfl,H,B,bh⟩;clear ec l1 d0 d1 l2 c0 c1 c2 c3 c4 c5 c6;have q4:=bh.size;obtain⟨W5,dy,a1,K5⟩:=ab7 D x0;have ch:=hid dy;have a6:=bh.trans (a1.mono bh.size);have eb:=ao.trans (a6.mono ao.size);have F:=ai.below B a1;have df:=dw.out.below a6;have dl:o<x0.os.n:=by rw[H.os.1];exact ho
 have e0:=H.os.2 o dl;have ev:l<(x0.os.z o).ls.n:=by rw[e0.2.1];exact hl
 obtain⟨gO,G,f1,f2,f3,f4,U,f6,f7,f8,f9,ae,S,al,aj,ad⟩:=F.lineCell dl ev;have s1:W5.cell? ⟨D.heap.size,1,none⟩=some (.slice x0.os.a x0.os.n x0.os.c):=K5.k 1;have s2:=K5.lt;have v1:=F.os.le;have v2:=F.os.cap;rw[f1] at s1;have cr:Hid (I7 s o l n (λb=>ar s b.toNat (fi s o l).o.toNat) (fa p but) w3.heap.size D.heap.size G g 0 W5):=⟨x0,by rw[Qyz];exact er.start V.out.fm.hold H,F,K5,df,U⟩;have qo:(0:Int)<=(o:Int):=by omega
 have ql:(0:Int)<=(l:Int):=by omega
 have bd:=qa5 eb ao.size q4 d8 f6;rw[<-ch.out] at s1 s2 f3 f4 f7;unfold maxLen at v2 f9;clear dy B F df K5 bh a1 a6 eb f1 f2 U f6 ae S al aj ad e0 H dw;simp only[St.val];go_wp2_with fail;rw[ch.out];clear s1 s2 f3 f4 f7 ch ao q4 fv d8 v1 v2 f8 f9
 generalize x0.os.n=XN at *
 go_loopw [4,56] (λnv kv J=>∃k:Nat,k<=(fa p but).length/\kv = .int .i64 k/\nv = .int .i64 (Tk.go (λb=>ar s b.toNat (fi s o l).o.toNat) n ((fa p but).take k)).left/\Hid (I7 s o l n (λb=>ar s b.toNat (fi s o l).o.toNat) (fa p but) w3.heap.size D.heap.size G g k J)/\Hid (Below L.heap.size L J)) (λ_ kv _=>(fa p but).length-(intOf kv).toNat)
 case atStart=>exact⟨0,Qxz _,rfl,rfl,cr,bd.out.1⟩
 clear cr;obtain⟨k,hk,rfl,rfl,HV,ak⟩:=hrel;have ax:Hid (zu (λb=>ar s b.toNat (fi s o l).o.toNat) n ((fa p but).take k) (Tk.go (λb=>ar s b.toNat (fi s o l).o.toNat) n ((fa p but).take k))):=E.out.tk ((uj p but).sublist (List.take_sublist _ _)) (λx hx=>E.out.way x (List.mem_of_mem_take hx));have bf:Hid (k<(fa p but).length->Tk.go (λb=>ar s b.toNat (fi s o l).o.toNat) n ((fa p but).take (k+1))=(Tk.go (λb=>ar s b.toNat (fi s o l).o.toNat) n ((fa p but).take k)).step (λb=>ar s b.toNat (fi s o l).o.toNat) ((fa p but).getD k 0)):=λh=>by rw[Xu h,Tk.go_more]
 have ah:Hid (k=(fa p but).length->Tk.go (λb=>ar s b.toNat (fi s o l).o.toNat) n ((fa p but).take k)=Ny p s (fi s o l).o n but):=λh=>by rw[h,List.take_length];rfl
 obtain⟨x,hT,hO,hK,hF,dk⟩:=HV.out;have i:=qa5 hT hO hK hF dk;obtain⟨T,dv⟩:∃T,Tk.go (λb=>ar s b.toNat (fi s o l).o.toNat) n ((fa p but).take k)=T:=⟨_,rfl⟩;rw[dv] at ax bf ah i ⊢;clear hT hO hK hF dk HV dv;have e6:=ax.out.left0;have fl:=ax.out.leftn;have hd:=E.out.n2;by_cases Y:k<(fa p but).length;rotate_left
 .have fz:k=(fa p but).length:=by omega
  have HT:Hid (T=Ny p s (fi s o l).o n but):=ah.out fz;clear ah;have KX:=i.out.2.2.1;obtain⟨m1,p0,p1,p2,p3,p4,p5,p6⟩:=Boxed.of KX;obtain⟨-,-,-,t,A,-⟩:=HC.out wr ak.out;have HZ:=qa2 t A;obtain⟨zl,fe,e2,gc,zc1,ff,zc2,gm,zc3,e3,zc4,ga,zc5,fq,fs⟩:=z7 A;clear KX t A;go_wp2_with fail;have KZ:=s7b HZ.out.2 x;have aw:=s7w (b:=w.heap.size+3) HZ.out.1 (by omega) x;have ce:=s7o i.out.2.1 HZ.out.2 x;unfold set7 at KZ aw ce;obtain⟨b0,cg,ca,cl,bw,cu,cd⟩:=cn KZ;refine Xzq (v := .tuple #[x.val,.int .i64 T.left,.int .i64 0]) (by simp[results,results96,go_sem,St.val,b0,cg,ca,cl,bw,cu,cd]) rfl ?_;have HL:Bl p s o l n but=T.left:=by rw[HT.out];exact if_pos HE.out
  refine⟨x,by rw[HL,HE.out];rfl,ce.at,⟨λ_ => ?_,λh=>absurd HE.out h⟩,λ_=>ce.mono ?_,aw⟩
  .rw[<-HT.out];exact i.out.1
  have:=(HC.out _ bd.out.1).2.2.2.1.size;have:=bd.out.2.1;omega
 have aq:Hid _:=bf.out Y;obtain⟨cp,b8⟩:=E.out.way _ (Yy Y);have z0:=i.out.2.2.2.1.cell (j:=k) Y;have z1:=i.out.2.2.2.1.lt;obtain⟨Q,bc⟩:=Qzz cp;have di:=hid bc;rw[bc] at z0 b8;have a9:Q<p.nb:=by omega
 have db:=E.out.good;obtain⟨gd,bi⟩:=Qzz db.1;have he:=hid bi;have a5:gd<p.ns:=by omega
 have cf:Hid (∀q,p.At q->s.At q->Calls prog 105 #[p.val,s.val,.int .i64 (Q:Int),.int .i64 (gd:Int)] q λe fc=>e = .returned (.tuple #[.int .i64 (ar s Q gd),.int .i64 0])/\Below q.heap.size q fc):=λq h1 h2=>by
  have h:=G9 p s Q gd q h1 h2;rw[(Dm E.out.st a9 a5).1,(Dm E.out.st a9 a5).2] at h;exact h
 have ha:=V8 V.out a9 a5;have fr:Hid ((λb:Int=>ar s b.toNat (fi s o l).o.toNat) ((fa p but).getD k 0)=ar s Q gd):=by
  show ar s ((fa p but).getD k 0).toNat (fi s o l).o.toNat=_;rw[bc,bi]
  rfl
 generalize hAVd:ar s Q gd=AV at *
 clear hAVd;have aa:o<x.os.n:=by rw[i.out.1.os.1];exact ho
 have ex:=i.out.1.os.2 o aa;have ay:l<(x.os.z o).ls.n:=by rw[ex.2.1];exact hl
 obtain⟨gO,dg,f1,f2,f3,f4,U,f6,f7,f8,f9,ae,S,al,aj,ad⟩:=i.out.2.1.lineCell aa ay;rw[i.out.2.2.2.2] at U;simp only[Qkx,Qkz,and_true] at U;subst U;have du:((x.os.z o).ls.z l).o=(gd:Int):=by
  rw[ex.2.2 l ay,if_pos ⟨rfl,rfl⟩];exact bi
 have bx:((x.os.z o).ls.z l).n=(fi s o l).n-(n-T.left):=by
  rw[ex.2.2 l ay,if_pos ⟨rfl,rfl⟩]
  rfl
 have g8:=hid bx;have ge:=dz (V.out.fm.line o ho l hl);have ep : -1000<=((x.os.z o).ls.z l).n/\((x.os.z o).ls.z l).n<=1000:=by
  rw[bx];have h1:(fi s o l).n=((s.os.z o).ls.z l).n:=rfl;rw[h1];omega
 rw[du] at S;obtain⟨⟨⟨l1,d0,d1⟩,l2,c0,c1,c2,c3,c4,c5,c6⟩,u,r,t,A,kb⟩:=HC.out wr ak.out;have cj:=qa2 u r;have r0:=Qqq d0;have r1:=Qqq d1;have fo:=Qqq c0;have fk:=Qqq c1;have gf:=Qqq c2;have fp:=Qqq c3;have gn:=Qqq c4;have gg:=Qqq c5;have gj:=Qqq c6;have rl:=Qqq S;clear bc bi db u r t A kb d0 d1 c0 c1 c2 c3 c4 c5 c6 l1 l2 f1 f2 f3 f4 f6 f8 f9 ae S al aj ad ex du bx ge ah cp b8;obtain⟨K,ct⟩:∃K,((x.os.z o).ls.z l).n=K:=⟨_,rfl⟩;have ea:=hid ct;rw[ct] at ep;clear ct;obtain⟨N,hN⟩:∃N,T.left=N:=⟨_,rfl⟩;have HN:=hid hN;rw[hN] at e6 fl ⊢;clear hN;have q0:(0:Int)<=(k:Int):=by omega
 have bb:Hid (∀m,min N AV=m->min T.left ((λb:Int=>ar s b.toNat (fi s o l).o.toNat) ((fa p but).getD k 0))=m):=λm h=>by rw[fr.out,HN.out];exact h
 go_wp2_with fail;refine Qxq (by kernel_rfl) (by kernel_rfl) ?_
 repeat(go_big_quiet_step((go_at_call 105;exact Xxz (cf.out _ (cj.out.1.below (Qxx _ _ _)) (cj.out.2.below (Qxx _ _ _))))))
 refine Qqz ?_;intro M d5;have am:Below wr.heap.size wr M:=by obtain⟨⟨dq,hc⟩,ef⟩:=d5;subst ef;exact Qxx _ _ _
 clear d5 r0 r1 fo fk gf fp gn gg gj rl cj z0 z1 cf;have P:=hid (ak.out.trans (am.mono ak.out.size));have f:Hid (er s o l n T x/\ai w3.heap.size M x/\Blk M D.heap.size 31 7 (λj=>x.cells.getD j default)/\Blk M g 3 (fa p but).length (λj => .int .i64 ((fa p but).getD j 0))/\(x.os.z o).ls.a=some ⟨G,0,none⟩):=⟨i.out.1,ai.below i.out.2.1 am,i.out.2.2.1.below am,i.out.2.2.2.1.below am,i.out.2.2.2.2⟩;clear am i ak f7;by_cases fh:min AV N=0
 .have d7:min N AV=0:=by omega
  have ag:Hid (I7 s o l n (λb=>ar s b.toNat (fi s o l).o.toNat) (fa p but) w3.heap.size D.heap.size G g (k+1) M/\(Tk.go (λb=>ar s b.toNat (fi s o l).o.toNat) n ((fa p but).take (k+1))).left=N):=by
   refine⟨⟨x,?_,f.out.2⟩,?_⟩
   .rw[aq.out];exact f.out.1.stepZero (bb.out 0 d7)
   rw[aq.out];show T.left-min T.left _=N;rw[bb.out 0 d7,HN.out];omega
  go_wp2_with fail;go_roundw
  case rel=>exact⟨k+1,by omega,by go_num,by rw[ag.out.2],ag.out.1,P⟩
  case measure=>simp[intOf];omega
 obtain⟨d,dp⟩:∃d,min AV N=d:=⟨_,rfl⟩;have fd:=hid dp;have gh:0<d:=by omega
 have f0:d<=N:=by omega
 have g7:(d==0)=false:=by simp;omega
 have dr:Hid (min N AV=d):=by show min N AV=d;omega
 have dj:Hid (addE x.hs.n x.hs.z (kg o l Q d)=0):=by
  have h:=f.out.1.addE (p:=p) (order:=o) (line:=l) (but:=but) E.out (λx hx=>E.out.way x (List.mem_of_mem_take hx)) ax.out (b:=(Q:Int)) ⟨by omega,by omega⟩ gh (by rw[HN.out];exact f0);exact h
 have KX:=f.out.2.2.1;have y2:M.cell? ⟨D.heap.size,2,none⟩=some (.slice x.hs.a x.hs.n x.hs.c):=KX.k 2;have y3:=KX.lt;have dx:Hid (Calls prog 145 #[.slice x.hs.a x.hs.n x.hs.c,.agg #[.int .i64 (o:Int),.int .i64 (l:Int),.int .i64 (Q:Int),.int .i64 d]] M λe q=>∃s':Hs,e = .returned (.tuple #[s'.val,.int .i64 0])/\cy M.heap.size 61 q s'/\Dh x.hs.n x.hs.z (kg o l Q d) s'/\Below M.heap.size M q):=by
  have h:=Tm x.hs (kg o l Q d) M f.out.2.1.hs.at;rw[dj.out] at h;exact h
 clear KX fh fd;go_wp2_with fail;refine dx.out.mono ?_;rintro e wa ⟨y,rfl,cv,d3,af⟩;clear y2 y3 dx dp;have q9:=P.out.size;have qa:=af.size;obtain⟨b1,b2,b3,b4,b5⟩:=bd.out;have dn:=ai.below f.out.2.1 af;have KA:=f.out.2.2.1.below af;have FA:=f.out.2.2.2.1.below af;have cm:=P.out.trans (af.mono P.out.size);have g1:=f.out.2.2.1.lt;have aa:o<x.os.n:=by rw[f.out.1.os.1];exact ho
 have bg:=(dn.withHolds (cv.mono (by omega))).box KA 2 (.slice y.a y.n y.c);have KB:=KA.set 2 (.slice y.a y.n y.c);have FB:=FA.other (a:=⟨D.heap.size,2,none⟩) (Blk.ne2 FA KA (by decide)) (.slice y.a y.n y.c);have dc:=cm.setCell (p:=⟨D.heap.size,2,none⟩) (by show L.heap.size<=D.heap.size;omega) (.slice y.a y.n y.c);have ay:l<(x.os.z o).ls.n:=by rw[(f.out.1.os.2 o aa).2.1];exact hl
 obtain⟨gO,dg,f1,f2,f3,f4,U,f6,f7,f8,f9,ae,S,al,aj,ad⟩:=bg.lineCell (o:=o) (l:=l) aa ay;have bz:(x.os.z o).ls.a=some ⟨dg,0,none⟩:=U;rw[f.out.2.2.2.2] at bz;simp only[Qkx,Qkz,and_true] at bz;subst bz;have en:(wa.setCell ⟨D.heap.size,2,none⟩ (.slice y.a y.n y.c)).cell? ⟨G,l*4+3,none⟩=some (.int .i64 ((x.os.z o).ls.z l).n):=ad;rw[ea.out] at en;have g9:=ae (l*4+3);obtain⟨B',ba,-,-,-,bu⟩:=bg.os.lines o aa;rw[U] at ba;simp only[Qkx,Qkz,and_true] at ba;subst ba;have ds:=bg.setLine (o:=o) aa U l 3 (by decide) (K-d);have KC:=KB.other (a:=⟨G,l*4+3,none⟩) (Blk.ne2 KB bu (by decide)) (.int .i64 (K-d));have FC:=FB.other (a:=⟨G,l*4+3,none⟩) (Blk.ne2 FB bu (by decide)) (.int .i64 (K-d));have dt:=dc.setCell (p:=⟨G,l*4+3,none⟩) (by show L.heap.size<=G;omega) (.int .i64 (K-d));have d4:=f.out.1.stepAdd (av:=λb=>ar s b.toNat (fi s o l).o.toNat) (order:=o) (line:=l) (b:=(fa p but).getD k 0) (m:=d) ho hl (bb.out d dr.out) (by rw[di.out];exact dj.out) (by rw[di.out];exact d3);have ag:Hid (I7 s o l n (λb=>ar s b.toNat (fi s o l).o.toNat) (fa p but) w3.heap.size D.heap.size G g (k+1) ((wa.setCell ⟨D.heap.size,2,none⟩ (.slice y.a y.n y.c)).setCell ⟨G,l*4+3,none⟩ (.int .i64 (K-d)))/\(Tk.go (λb=>ar s b.toNat (fi s o l).o.toNat) n ((fa p but).take (k+1))).left=N-d/\Below L.heap.size L ((wa.setCell ⟨D.heap.size,2,none⟩ (.slice y.a y.n y.c)).setCell ⟨G,l*4+3,none⟩ (.int .i64 (K-d)))):=by
  refine⟨⟨withHolds (setLine x o l 3 (K-d)) y,?_,ds,KC.congr (λj hj=>by match j,hj with|0,_=>rfl|1,_=>rfl|2,_=>rfl|3,_=>rfl|4,_=>rfl|5,_=>rfl|6,_=>rfl),FC,?_⟩,?_,dt⟩
  .rw[aq.out];have h:=d4;rw[show((x.os.z ((o:Nat):Int).toNat).ls.z ((l:Nat):Int).toNat).n=K from ea.out] at h;exact h
  .exact((dm (s:=x) (o:=o) (l:=l) (c:=3) (v:=K-d) o).2.1).trans f.out.2.2.2.2
  rw[aq.out];show T.left-min T.left _=N-d;rw[bb.out d dr.out,HN.out]
 have z1:=KA.lt;have z2:=KA.frozen 2;have z3:=KA.k 2;clear dn KA FA cm bg KB FB dc f1 f2 f3 f4 U f6 f8 f9 ae S al aj ad bu ds KC FC dt d4 cv d3 af f P ax aq;simp only[Hs.val];go_wp2_with fail;go_roundw
 case rel=>exact⟨k+1,by omega,by go_num,by rw[ag.out.2.1],ag.out.1,ag.out.2.2⟩
 case measure=>simp[intOf];omega
structure D5(p:Pl)(s y0:St)(A B7:Nat)(W0:World)(cur:St)(wk:World):Prop where
 own0:ai A wk y0
 own:ai A wk cur
 box:Blk wk B7 31 7 (λj=>cur.cells.getD j default)
 bel:Below W0.heap.size W0 wk
 le:A<=wk.heap.size
theorem D5.below{p:Pl}{s c cur:St}{A f:Nat}{d b e:World}(h:D5 p s c A f d cur b)(a:Below b.heap.size b e):D5 p s c A f d cur e :=
 ⟨h.own0.below a,h.own.below a,h.box.below a,h.bel.trans (a.mono h.bel.size),Qzx h.le a.size⟩
def xw(p:Pl)(s:St)(i:Nat)(cur:St):Prop:=h9 p (-1) (pq s) (v7 s) (df s s.os.n) i cur
def xx(p:Pl)(s:St)(i j:Nat)(cur:St):Prop:=∃y,xw p s i y/\kt p (-1) (pq s) i y j cur
theorem xx.next{p:Pl}{s cur:St}{i:Nat}(h:xx p s i (s.os.z i).ls.n cur):xw p s (i+1) cur:=h
theorem xw.row{p:Pl}{s cur:St}{i:Nat}(h:xw p s i cur):xx p s i 0 cur:=⟨cur,h,rfl⟩
theorem xw.skip{p:Pl}{s cur:St}{i:Nat}(r:au p s)(h:xw p s i cur)(hi:i<s.os.n)(c:¬((df s s.os.n).os.z i).k=1):xw p s (i+1) cur :=
 ⟨cur,h,kt.skip (uz r) (h9.pos (uz r) (λa _=>mi s a) (Nat.le_of_lt hi) h) hi (Nat.le_of_eq (mi s i)) λb _=>if_neg c⟩
theorem xx.pos{p:Pl}{s cur:St}{i j:Nat}(r:au p s)(h:xx p s i j cur)(hi:i<s.os.n)(d:j<=(s.os.z i).ls.n):Pos p (-1) (pq s) (df s s.os.n) i j cur:=by
 obtain⟨y,b,c⟩:=h;exact kt.pos (uz r) (h9.pos (uz r) (λa _=>mi s a) (Nat.le_of_lt hi) b) hi (by rw[<-mi];exact d) c
theorem xx.stepIn{p:Pl}{s cur:St}{i j:Nat}(r:au p s)(h:xx p s i j cur)(hi:i<s.os.n)(a:j<(s.os.z i).ls.n):j5 p (-1) cur i j (pq s i j):=
 (h.pos r hi (Nat.le_of_lt a)).stepIn (uz r) hi (by rw[<-mi];exact a)
theorem xx.step{p:Pl}{s cur x:St}{i j:Nat}(h:xx p s i j cur)(T:lg p (-1) cur i j (pq s i j) x):xx p s i (j+1) x:=by
 obtain⟨y,a,b⟩:=h;exact⟨y,a,cur,b,T⟩
theorem R5(p:Pl)(s:St)(w:World)(hp:p.At w)(hs:s.At w):
  Calls prog 43 #[p.val,s.val] w λe w'=>∃x:St,e = .returned (.tuple #[x.val,.int .i64 (ag p s)])/\x.At w'/\Fg p s x/\(ag p s=0->ai w.heap.size w' x)/\Below w.heap.size w w':=by
 obtain⟨q,hW,M,X0,Z0⟩:∃W,(((w.alloc (.cells #[.slice p.ab p.nb p.cb,.slice p.sa p.ns p.cs] 25)).alloc (.cells s.cells 31)).alloc (.cells #[.slice .none 0 0,.slice .none 0 0,.slice .none 0 0,.slice .none 0 0,.slice .none 0 0,.slice .none 0 0,.slice .none 0 0] 31))=W/\Below w.heap.size w W/\lq W w.heap.size (w.heap.size+1) p s/\Blk W (w.heap.size+2) 31 7 (λ_ => .slice .none 0 0):=
  ⟨_,rfl,(js _ _ _).alloc (by simp;omega) _,(nk w p s _ _).below ((Below.refl _ _).alloc (Nat.le_refl _) _),(Blk.mk' (cur:=#[.slice .none 0 0,.slice .none 0 0,.slice .none 0 0,.slice .none 0 0,.slice .none 0 0,.slice .none 0 0,.slice .none 0 0]) (by simp) rfl).congr (λj V=>by match j,V with|0,_=>rfl|1,_=>rfl|2,_=>rfl|3,_=>rfl|4,_=>rfl|5,_=>rfl|6,_=>rfl)⟩
 have HC:Hid (∀m,Below q.heap.size q m->lq m w.heap.size (w.heap.size+1) p s/\p.At m/\s.At m/\Below w.heap.size w m/\Blk m (w.heap.size+2) 31 7 (λ_ => .slice .none 0 0)):=λm h=>⟨X0.below h,(hp.below M).below h,(hs.below M).below h,M.trans (h.mono M.size),Z0.below h⟩;have HW:Hid (((w.alloc (.cells #[.slice p.ab p.nb p.cb,.slice p.sa p.ns p.cs] 25)).alloc (.cells #[.slice s.on.a s.on.n s.on.c,.slice s.os.a s.os.n s.os.c,.slice s.hs.a s.hs.n s.hs.c,.slice s.ms.a s.ms.n s.ms.c,.slice s.si.a s.si.n s.si.c,.slice s.so.a s.so.n s.so.c,.slice s.sf.a s.sf.n s.sf.c] 31)).alloc (.cells #[.slice .none 0 0,.slice .none 0 0,.slice .none 0 0,.slice .none 0 0,.slice .none 0 0,.slice .none 0 0,.slice .none 0 0] 31)=q):=hW;have leb:=hp.leb;have bu:=hp.capb;have les:=hp.les;have bt:=hp.caps;have capb:=bu;have caps:=bt;have eu:=Z0.lt;unfold maxLen at capb caps;clear hW X0 Z0 hp hs;unfold Pl.val St.val;go_enter func43,ntmps43;go_wp2_with fail;rw[HW.out];obtain⟨X,G,F,u,J⟩:=HC.out q (Below.refl _ _);refine(lm p s q G F).mono ?_;rintro e g ⟨rfl,hB⟩;clear X G F u J HW;obtain⟨⟨⟨l1,d0,d1⟩,l2,c0,c1,c2,c3,c4,c5,c6⟩,G,F,u,J⟩:=HC.out g hB;by_cases h0:ag p s=0;rotate_left
 .have c8:=hid h0;have g0:(ag p s !=0)=true:=by simpa using h0
  clear h0 G F;obtain⟨zl,cf,cc,cz,zc1,cg,zc2,da,zc3,cd,zc4,cw,zc5,co,ct⟩:=z7 J;go_wp2_with fail;have KZ:=n7b J;have ah:=n7w (b:=w.heap.size+2) u (by omega);unfold set7 at KZ ah;obtain⟨a4,bf,ba,bk,a2,bq,bc⟩:=cn KZ;refine Xzq (v := .tuple #[l8.val,.int .i64 (ag p s)]) (by simp[results,results43,go_sem,l8,St.val,a4,bf,ba,bk,a2,bq,bc]) rfl ?_;exact⟨l8,rfl,vy _,⟨λh=>absurd h c8.out,λ_=>⟨rfl,rfl,rfl,rfl,rfl,rfl,rfl⟩⟩,λh=>absurd h c8.out,ah⟩
 have H0:=hid h0;have HR:Hid (au p s):=ed h0;rw[h0];clear h0;have dd:Hid (Calls prog 90 #[s.val] g λe w'=>∃s':St,e = .returned s'.val/\ae s' s/\ai g.heap.size w' s'/\Below g.heap.size g w'):=nd p s g F HR.out.fm;clear G F u J;go_wp2_with fail;refine Calls.mono dd.out ?_;rintro e Y ⟨d,rfl,aa,U,aj⟩;clear dd l1 d0 d1 l2 c0 c1 c2 c3 c4 c5 c6;obtain⟨W5,cu,L,K5⟩:∃W,Y.alloc (.cells #[.slice d.on.a d.on.n d.on.c,.slice d.os.a d.os.n d.os.c,.slice d.hs.a d.hs.n d.hs.c,.slice d.ms.a d.ms.n d.ms.c,.slice d.si.a d.si.n d.si.c,.slice d.so.a d.so.n d.so.c,.slice d.sf.a d.sf.n d.sf.c] 31)=W/\Below Y.heap.size Y W/\Blk W Y.heap.size 31 7 (λj=>d.cells.getD j default):=⟨_,rfl,(Below.refl _ _).alloc (Nat.le_refl _) _,Blk.mk' rfl rfl⟩;have bg:Hid (Y.alloc (.cells #[.slice d.on.a d.on.n d.on.c,.slice d.os.a d.os.n d.os.c,.slice d.hs.a d.hs.n d.hs.c,.slice d.ms.a d.ms.n d.ms.c,.slice d.si.a d.si.n d.si.c,.slice d.so.a d.so.n d.so.c,.slice d.sf.a d.sf.n d.sf.c] 31)=W5):=cu;have ar:=aj.trans (L.mono aj.size);have db:=hB.trans (ar.mono hB.size);have cj:Hid (ai g.heap.size W5 (df d 0)):=by show ai g.heap.size W5 (df d 0);rw[Pc];exact ai.below U L
 have ac:=hid aa;have s1:=K5.cell (j:=1) (by decide);have dc:W5.cell? ⟨Y.heap.size,1,none⟩=some (.slice d.os.a d.os.n d.os.c):=s1;have s2:=K5.lt;have c9:=hid K5;have ck:=hid db;have A1:q.heap.size<=g.heap.size:=hB.size;have A2:g.heap.size<=Y.heap.size:=aj.size;have A3:g.heap.size<=W5.heap.size:=ar.size;have d8:g.heap.size<=Y.heap.size:=aj.size;have ol:d.os.n<=d.os.c:=(ai.below U L).os.le;have oc:d.os.c<=maxLen:=(ai.below U L).os.cap;unfold maxLen at oc;have ef:d.os.n<=4:=by rw[aa.os.1];exact HR.out.fm.os4
 rw[<-bg.out] at dc s2;clear cu U K5 aj L ar db aa hB s1;simp only[St.val];go_wp2_with fail;rw[bg.out];clear dc s2 bg
 generalize Y.heap.size=A at *
 go_loopw [25] (λkv m=>∃k:Nat,k<=d.os.n/\kv = .int .i64 k/\Hid (ai g.heap.size m (df d k))/\Hid (Blk m A 31 7 (λj=>d.cells.getD j default))/\Hid (Below q.heap.size q m)/\Hid (g.heap.size<=m.heap.size)) (λkv _=>d.os.n-(intOf kv).toNat)
 case atStart=>exact⟨0,Qxz _,rfl,cj,c9,ck,A3⟩
 clear cj c9 ck A3;obtain⟨k,hk,rfl,S,E,av,af⟩:=hrel;by_cases B:k<d.os.n
 .have q0:(0:Int)<=(k:Int):=by omega
  have q1:(k:Int)<(d.os.n:Int):=by omega
  obtain⟨gO,g1,g2,g3⟩:=S.out.os.list (by show 0<d.os.n;omega);have ci:d.os.a=some ⟨gO,0,none⟩:=g1;have HG:Hid ((df d k).os.a=some ⟨gO,0,none⟩):=g1;have u1:wr.cell? ⟨A,1,none⟩=some (.slice d.os.a d.os.n d.os.c):=E.out.cell (j:=1) (by decide);rw[ci] at u1;have u2:=E.out.lt;have u3:=g3.lt;have b7:Hid (∀j,j<((df d k).os.z k).ls.n->(0<=(((df d k).os.z k).ls.z j).l/\(((df d k).os.z k).ls.z j).l<=200)/\0<=(((df d k).os.z k).ls.z j).b/\(((df d k).os.z k).ls.z j).b<=200):=by
   show ∀j,j<(g9 k k (d.os.z k)).ls.n->(0<=((g9 k k (d.os.z k)).ls.z j).l/\((g9 k k (d.os.z k)).ls.z j).l<=200)/\0<=((g9 k k (d.os.z k)).ls.z j).b/\((g9 k k (d.os.z k)).ls.z j).b<=200;rw[uy _ (Nat.le_refl _)];intro j V;have e:=ac.out.os.2 k B;have hl:=dz (HR.out.fm.line k (by rw[<-ac.out.os.1];exact B) j (by rw[<-e.2.1];exact V));rw[e.2.2 j V];omega
  clear g1 ci g3;go_wp2_with fail;refine(Sx (df d k) k g.heap.size gO wr af.out S.out B HG.out b7.out).mono ?_;rintro e w6 ⟨y,rfl,f,y1,bj,a6,cp⟩;have H:Hid (ai g.heap.size w6 (df d (k+1))/\Blk w6 A 31 7 (λj=>d.cells.getD j default)/\Below q.heap.size q w6/\g.heap.size<=w6.heap.size):=by
   refine⟨?_,cp _ _ _ _ (by decide) (by decide) E.out,av.out.trans (a6.mono A1),Qzx af.out a6.size⟩;have e:((df d k).os.z k).k=(d.os.z k).k:=by show(g9 k k (d.os.z k)).k=_;rw[uy _ (Nat.le_refl _)]
   by_cases c:(d.os.z k).k=0
   .rw[<-Rj c,<-f (by rw[e];exact c)];exact bj
   rw[<-Pb c,<-y1 (by rw[e];exact c)];exact bj
  clear f y1 bj a6 cp S E av af u1 u2 u3 b7 HG;go_wp2_with fail;go_roundw
  case rel=>exact⟨k+1,by omega,by go_num,H.out.1,H.out.2.1,H.out.2.2.1,H.out.2.2.2⟩
  case measure=>simp[intOf];omega
 have eg:k=d.os.n:=by omega
 subst eg;obtain⟨f,ya,yn,yc,D,aw⟩:∃y:St,d.os.a=y.os.a/\d.os.n=y.os.n/\d.os.c=y.os.c/\Hid (D5 p s y g.heap.size A q y wr)/\Hid (ae y (df s s.os.n)):=⟨df d d.os.n,rfl,rfl,rfl,⟨S.out,S.out,E.out,av.out,af.out⟩,by have h:=Ij ac.out d.os.n;rw[ac.out.os.1] at h ⊢;exact h⟩;have u1:wr.cell? ⟨A,1,none⟩=some (.slice d.os.a d.os.n d.os.c):=E.out.cell (j:=1) (by decide);have u2:=E.out.lt;go_wp2_with fail;rw[ya,yn,yc];rw[yn,yc] at ol;rw[yc] at oc;rw[yn] at ef;clear u1 u2 ya yn yc S E av af ac hk B
 go_loopw [37] (λkv m=>∃(i:Nat) (cur:St),i<=f.os.n/\kv = .int .i64 i/\Hid (D5 p s f g.heap.size A q cur m)/\Hid (xw p s i cur)) (λkv _=>f.os.n-(intOf kv).toNat)
 case atStart=>exact⟨0,f,Qxz _,rfl,D,aw.out⟩
 clear D;obtain⟨i,cur,hi,rfl,D,HA⟩:=hrel;by_cases B:i<f.os.n;rotate_left
 .have em:i=f.os.n:=by omega
  have ei:Hid (jw p s cur):=by have h:=HA.out;rw[em,aw.out.os.1] at h;exact h
  obtain⟨m1,p0,p1,p2,p3,p4,p5,p6⟩:=Boxed.of D.out.box;obtain⟨-,-,-,u,J⟩:=HC.out wr D.out.bel;have HZ:Hid (Below w.heap.size w wr/\Blk wr (w.heap.size+2) 31 7 (λ_ => .slice .none 0 0)):=⟨u,J⟩;obtain⟨zl,cf,cc,cz,zc1,cg,zc2,da,zc3,cd,zc4,cw,zc5,co,ct⟩:=z7 J;have ez:=(HC.out _ (Below.refl _ _)).2.2.2.1.size;clear u J;go_wp2_with fail;have KZ:=s7b HZ.out.2 cur;have ah:=s7w (b:=w.heap.size+2) HZ.out.1 (by omega) cur;have bd:=s7o D.out.own HZ.out.2 cur;unfold set7 at KZ ah bd;obtain⟨a4,bf,ba,bk,a2,bq,bc⟩:=cn KZ;refine Xzq (v := .tuple #[cur.val,.int .i64 0]) (by simp[results,results43,go_sem,St.val,a4,bf,ba,bk,a2,bq,bc]) rfl ?_;exact⟨cur,by rw[H0.out];rfl,bd.at,⟨λ_=>ei.out,λh=>absurd H0.out h⟩,λ_=>bd.mono (by omega),ah⟩
 have q0:(0:Int)<=(i:Int):=by omega
 have q1:(i:Int)<(f.os.n:Int):=by omega
 obtain⟨bo,oo,b9,d2,z0,z1,ax⟩:=D.out.own0.at.os.ods i B;have eo:=aw.out.os.2 i B;have ad:i<s.os.n:=by have:=aw.out.os.1;show i<s.os.n;exact this▸B
 have a3:Hid ((f.os.z i).ls.n=(s.os.z i).ls.n):=eo.2.1.trans (mi s i).symm;have ay:=hid eo.1;have d9:Hid (∀j,j<(f.os.z i).ls.n->((f.os.z i).ls.z j).n=(((df s s.os.n).os.z i).ls.z j).n):=λj V=>by rw[eo.2.2 j V]
 have ll:=ax.le;have lc:=ax.cap;unfold maxLen at lc;have e2:(f.os.z i).ls.n<=3:=by rw[a3.out];exact(HR.out.fm.lns i ad).2
 rw[b9];clear b9 eo;obtain⟨W,hW,M⟩:∃W,wr.alloc (.cells #[.int .i64 (f.os.z i).k,.slice (f.os.z i).ls.a (f.os.z i).ls.n (f.os.z i).ls.c] 57)=W/\Below wr.heap.size wr W:=⟨_,rfl,(Below.refl _ _).alloc (Nat.le_refl _) _⟩;have HW:Hid (wr.alloc (.cells #[.int .i64 (f.os.z i).k,.slice (f.os.z i).ls.a (f.os.z i).ls.n (f.os.z i).ls.c] 57)=W):=hW;have br:Hid (D5 p s f g.heap.size A q cur W):=D.out.below M;have P:Hid ((f.os.z i).ls.At W):=ax.below M;clear hW ax;by_cases hk:(f.os.z i).k=1;rotate_left
 .have H:Hid (xw p s (i+1) cur):=HA.out.skip HR.out ad (by rw[<-ay.out];exact hk);have e3:((f.os.z i).k !=1)=true:=by simpa using hk
  clear hk ay
  generalize (f.os.z i).k=KK at *
  go_wp2_with fail;rw[HW.out];go_roundw
  case rel=>exact⟨i+1,cur,by omega,by go_num,br,H⟩
  case measure=>simp[intOf];omega
 have c7:Hid (((df s s.os.n).os.z i).k=1):=by rw[<-ay.out];exact hk
 rw[hk] at z0 HW;clear hk ay;go_wp2_with fail;rw[HW.out];clear z0 z1 d2 HW q0 q1
 go_loopw [48] (λjv m=>∃(j:Nat) (r:St),j<=(f.os.z i).ls.n/\jv = .int .i64 j/\Hid (D5 p s f g.heap.size A q r m)/\Hid ((f.os.z i).ls.At m)/\Hid (xx p s i j r)) (λjv _=>(f.os.z i).ls.n-(intOf jv).toNat)
 case atStart=>exact⟨0,cur,Qxz _,rfl,br,P,HA.out.row⟩
 clear br P D HA;obtain⟨j,r,V,rfl,D,P,HB⟩:=hrel;by_cases bi:j<(f.os.z i).ls.n;rotate_left
 .have d5:j=(f.os.z i).ls.n:=by omega
  subst d5;have H:Hid (xw p s (i+1) r):=by have h:=HB.out;rw[a3.out] at h;exact h.next
  go_wp2_with fail;go_roundw
  case rel=>exact⟨i+1,r,by omega,by go_num,D,H⟩
  case measure=>simp[intOf];omega
 have q2:(0:Int)<=(j:Int):=by omega
 have q3:(j:Int)<((f.os.z i).ls.n:Int):=by omega
 obtain⟨bl,ob,cm,el,y1,y2,y3,y4⟩:=P.out.hds j bi;rw[cm];have cq:j<(s.os.z i).ls.n:=by rw[<-a3.out];exact bi
 have HQ:Hid (pq s i j=((f.os.z i).ls.z j).n):=by show pq s i j=_;rw[d9.out j bi];exact if_pos c7.out
 have cl:Hid (j5 p (-1) r i j ((f.os.z i).ls.z j).n):=by show j5 _ _ _ _ _ _;rw[<-HQ.out];exact HB.out.stepIn HR.out ad cq
 have cx:Hid ((r.os.z i).k=1):=((HB.out.pos HR.out ad (Nat.le_of_lt cq)).al.kind i ad).1.trans c7.out;have cy:Hid (ew p r i j ((f.os.z i).ls.z j).n (-1)=0):=by have I:=cl.out.allocIn cx.out;exact I.less ⟨I.n0,Int.le_refl _⟩
 have b8:Hid (∀x,lg p (-1) r i j ((f.os.z i).ls.z j).n x->xx p s i (j+1) x):=λx T=>HB.out.step (by rw[HQ.out];exact T);clear cm cl cx HB
 generalize (f.os.z i).ls.z j=Z at *
 obtain⟨W2,ch,am⟩:∃W,wr.alloc (.cells #[.int .i64 Z.o,.int .i64 Z.l,.int .i64 Z.b,.int .i64 Z.n] 59)=W/\Below wr.heap.size wr W:=⟨_,rfl,(Below.refl _ _).alloc (Nat.le_refl _) _⟩;have be:Hid (wr.alloc (.cells #[.int .i64 Z.o,.int .i64 Z.l,.int .i64 Z.b,.int .i64 Z.n] 59)=W2):=ch;have Q:Hid (D5 p s f g.heap.size A q r W2):=D.out.below am;have bp:Hid ((f.os.z i).ls.At W2):=P.out.below am;obtain⟨⟨⟨l1,d0,d1⟩,l2,c0,c1,c2,c3,c4,c5,c6⟩,G,F,u,J⟩:=HC.out W2 Q.out.bel;obtain⟨m1,p0,p1,p2,p3,p4,p5,p6⟩:=Boxed.of Q.out.box;have ce:=hid G;clear ch am G F u J l2 c0 c1 c2 c3 c4 c5 c6 D P;rw[<-be.out] at l1 d0 d1 m1 p0 p1 p2 p3 p4 p5 p6;go_wp2_with fail;rw[be.out];clear be l1 d0 d1 m1 p0 p1 p2 p3 p4 p5 p6 el y1 y2 y3 y4;refine(Kc p r i j Z.n (-1) W2 ce.out Q.out.own.at).mono ?_;rintro e w8 ⟨x,rfl,d3,ca,a5,bm⟩;have HT:Hid (xx p s i (j+1) x):=b8.out x (ca.1 cy.out);have d7:Hid (ai g.heap.size w8 x):=(a5 cy.out).mono Q.out.le;have t:Hid (D5 p s f g.heap.size A q r w8):=Q.out.below bm;have er:Hid ((f.os.z i).ls.At w8):=bp.out.below bm;have cv:=t.out.box;obtain⟨zl,cf,cc,cz,zc1,cg,zc2,da,zc3,cd,zc4,cw,zc5,co,ct⟩:=z7 cv;clear cv d3 ca a5 bm b8 Q bp ce
 generalize Bl p r i j Z.n (-1)=LL at *
 generalize ew p r i j Z.n (-1)=EE at *
 simp only[St.val];go_wp2_with fail;have H:Hid (D5 p s f g.heap.size A q x (set7 w8 A (.slice x.on.a x.on.n x.on.c) (.slice x.os.a x.os.n x.os.c) (.slice x.hs.a x.hs.n x.hs.c) (.slice x.ms.a x.ms.n x.ms.c) (.slice x.si.a x.si.n x.si.c) (.slice x.so.a x.so.n x.so.c) (.slice x.sf.a x.sf.n x.sf.c))/\(f.os.z i).ls.At (set7 w8 A (.slice x.on.a x.on.n x.on.c) (.slice x.os.a x.os.n x.os.c) (.slice x.hs.a x.hs.n x.hs.c) (.slice x.ms.a x.ms.n x.ms.c) (.slice x.si.a x.si.n x.si.c) (.slice x.so.a x.so.n x.so.c) (.slice x.sf.a x.sf.n x.sf.c))):=by
  have K:=s7b t.out.box x;have hb:=s7w (b:=A) t.out.bel (Qzx A1 d8) x;refine⟨⟨s7o t.out.own0 t.out.box x,s7o d7.out t.out.box x,K.congr (λj V=>by match j,V with|0,_=>rfl|1,_=>rfl|2,_=>rfl|3,_=>rfl|4,_=>rfl|5,_=>rfl|6,_=>rfl),hb,?_⟩,?_⟩
  .have:=t.out.le
   simpa[set7] using this
  exact((s7o t.out.own0 t.out.box x).at.os.ods i B).choose_spec.choose_spec.2.2.2.2
 unfold set7 at H;go_roundw
 case rel=>exact⟨j+1,x,by omega,by go_num,H.out.1,H.out.2,HT⟩
 case measure=>simp[intOf];omega
theorem R7(x:Hd)(w:World):
  Calls prog 148 #[x.val] w λe c=>e = .returned (.bool (jr x))/\Below w.heap.size w c:=by
 have a:=(Below.refl w.heap.size w).alloc nlr (.cells #[.int .i64 x.o,.int .i64 x.l,.int .i64 x.b,.int .i64 x.n] 59);unfold Hd.val;go_enter func148,ntmps148;go_wp2_with fail;go_ret;exact⟨rfl,a⟩
theorem Tv(h:Hs)(w:World)(b:h.At w):
  Calls prog 101 #[.slice h.a h.n h.c] w λe g=>e = .returned (.bool (!aw h.n (λj=>jr (h.z j))))/\Below w.heap.size w g:=by
 go_enter func101,ntmps101;go_wp2_with fail;refine(Lo 148 #[] (λj=>jr (h.z j)) _ _ _ _ b.le b.cap h.z b.hds (enters_of func148 (by kernel_rfl) rfl) (λi d _ _=>R7 (h.z i) d)).mono ?_;rintro e d ⟨rfl,f⟩;go_wp2_with fail;go_ret;exact⟨rfl,f⟩
theorem Yi(p:Pl)(s:St)(order line bin n:Int)(w:World)(hp:p.At w)(hs:s.At w):
  Calls prog 45 #[p.val,s.val,.int .i64 order,.int .i64 line,.int .i64 bin,.int .i64 n] w λe w'=>∃x:St,e = .returned (.tuple #[x.val,.int .i64 (ir p s order line bin n)])/\x.At w'/\du (ir p s order line bin n) (pi p s order.toNat line.toNat bin.toNat n) x/\(ir p s order line bin n=0->ai w.heap.size w' x)/\Below w.heap.size w w':=by
 obtain⟨J,hW,hf,X0,Z0⟩:=Ab w p s;have HC:=yu hp hs hf X0 Z0;have HW:=hid hW;have leb:=hp.leb;have eb:=hp.capb;have les:=hp.les;have ea:=hp.caps;have capb:=eb;have caps:=ea;have jl:=Z0.lt;unfold maxLen at capb caps;have j8:=hs.os.le;have ij:=hs.os.cap;unfold maxLen at ij;clear hW X0 Z0 hp hs;unfold Pl.val St.val;go_enter func45,ntmps45;go_wp2_with fail;rw[HW.out];obtain⟨X,E,m,t,A⟩:=HC.out J brf;refine(lm p s J E m).mono ?_;rintro e Y ⟨rfl,hB⟩;clear X E m t A HW;obtain⟨⟨⟨l1,d0,d1⟩,l2,c0,c1,c2,c3,c4,c5,c6⟩,E,m,t,A⟩:=HC.out Y hB;by_cases h0:ag p s=0;rotate_left
 .have U:Hid (ir p s order line bin n=ag p s):=yg h0;have hv:Hid (¬ir p s order line bin n=0):=by show ¬_;rw[yg h0];exact h0
  have g0:(ag p s !=0)=true:=by simpa using h0
  clear h0;clear E m;obtain⟨zl,aj,an,av,zc1,ak,zc2,ax,zc3,af,zc4,ar,zc5,al,am⟩:=z7 A;go_wp2_with fail;exact gz results45 A t (by omega) U.out (λh=>hv.out (U.out.trans h)) rfl rfl rfl
 have H0:=hid h0;have HR:Hid (au p s):=ed h0;rw[h0];clear h0;have el:=hid m.hs;clear E m t A;go_wp2_with fail;refine(R2 s.hs order line bin Y el.out).mono ?_;rintro e w2 ⟨hd,rfl,fp,en,ck⟩;clear el l1 d0 d1 l2 c0 c1 c2 c3 c4 c5 c6;rw[Qx HR.out.fm.hold,Yv HR.out.fm.hold];have a0:=hB.trans (ck.mono hB.size);have A1:J.heap.size<=Y.heap.size:=hB.size;have A2:Y.heap.size<=w2.heap.size:=ck.size;have h9:=hid fp;have i5:=hid en;obtain⟨⟨⟨l1,d0,d1⟩,l2,c0,c1,c2,c3,c4,c5,c6⟩,E,m,t,A⟩:=HC.out w2 a0;clear fp en ck hB;by_cases Q:keptV s.hs.n s.hs.z order line bin=0
 .have U:Hid (ir p s order line bin n=4):=Ga H0.out Q;rw[if_pos Q]
  generalize keptV s.hs.n s.hs.z order line bin=KV at *
  simp only[Hs.val];clear E m;obtain⟨zl,aj,an,av,zc1,ak,zc2,ax,zc3,af,zc4,ar,zc5,al,am⟩:=z7 A;go_wp2_with fail;exact gz results45 A t (by omega) U.out (by decide) rfl rfl rfl
 rw[if_neg Q];cases h2:inB n 0 (keptV s.hs.n s.hs.z order line bin)
 .have U:Hid (ir p s order line bin n=3):=Ei H0.out Q h2;clear Q
  generalize keptV s.hs.n s.hs.z order line bin=KV at *
  simp only[Hs.val];clear E m;obtain⟨zl,aj,an,av,zc1,ak,zc2,ax,zc3,af,zc4,ar,zc5,al,am⟩:=z7 A;go_wp2_with(go_at_call 63;refine ah (ch _ _ _ _) ?_);exact gz results45 A t (by omega) U.out (by decide) rfl rfl rfl
 obtain⟨o,l,b,rfl,rfl,rfl,hi⟩:=Mb HR.out Q;have HI:=hid hi;have gd:=HI.out.good;have bd:=HI.out.bd;have nn:=aq h2;have ho:=HI.out.on;have hl:=HI.out.ln;have hb:=HI.out.bn;obtain⟨g,hg⟩:∃g,bp s o l=g:=⟨_,rfl⟩;have HG:Hid (bp s o l=g):=hg;rw[hg] at gd;have gl:=gd.2;obtain⟨bo,oo,c7,ih,z0,z1,b6⟩:=m.os.ods o ho;obtain⟨bl,ol,ep,i9,y0,y1,y2,y3⟩:=b6.hds l hl;have ll:=b6.le;have lc:=b6.cap;unfold maxLen at lc;have son:=HR.out.fm.son;obtain⟨bs,os,dx,i2,gx⟩:=m.so.ints g (by omega);have j7:=m.so.le;have hr:=m.so.cap;unfold maxLen at hr;have fc:=hid dx;have eo:=hid c7;rw[gd.1] at y0;rw[c7] at c1;rw[ep] at z1;rw[dx] at c5;have q0:(0:Int)<=(o:Int):=by omega
 have q1:(o:Int)<(s.os.n:Int):=by omega
 have q2:(0:Int)<=(l:Int):=by omega
 have q3:(l:Int)<((s.os.z o).ls.n:Int):=by omega
 have q4:(0:Int)<=(g:Int):=by omega
 have sg:g<s.so.n:=by omega
 have q5:(g:Int)<(s.so.n:Int):=by omega
 have sob:=HR.out.fm.sob g gl;have gv:Hid (dy s o l b=keptV s.hs.n s.hs.z o l b):=rfl;have H1:=hid Q;have H2:=hid h2;have hn:1<=keptV s.hs.n s.hs.z o l b/\keptV s.hs.n s.hs.z o l b<=200:=⟨bd.1,bd.2.1⟩;clear c7 ep b6 dx y1 y2 y3 z0 gd bd hi hg Q son;simp only[Hs.val];by_cases h3:1048576<s.so.z g+n
 .have U:Hid (ir p s o l b n=2):=F9 H0.out H1.out H2.out (by show 1048576<s.so.z (bp s o l)+n;rw[HG.out];exact h3);have ff:1048576-s.so.z g<n:=by omega
  generalize keptV s.hs.n s.hs.z o l b=KV at *
  clear h3;clear E m;obtain⟨zl,aj,an,av,zc1,ak,zc2,ax,zc3,af,zc4,ar,zc5,al,am⟩:=z7 A;go_wp2_with(go_at_call 63;refine ah (ch _ _ _ _) ?_);exact gz results45 A t (by omega) U.out (by decide) rfl rfl rfl
 have U:Hid (ir p s o l b n=0):=Rg H0.out H1.out H2.out (by show ¬1048576<s.so.z (bp s o l)+n;rw[HG.out];exact h3);have df:Hid (k9 p s o l b n):=by
  have h:=Mk U.out;obtain⟨-,o',l',b',e1,e2,e3,h⟩:=h;have bg:o'=o:=by omega
  have i4:l'=l:=by omega
  have im:b'=b:=by omega
  rw[bg,i4,im] at h;exact h
 have ff:¬1048576-s.so.z g<n:=by omega
 have ek:Hid (hd.n=(mm s.hs o l b).n/\∀j,j<hd.n->hd.z j=(mm s.hs o l b).z j):=by
  have k:=i5.out;unfold Vx at k;rw[Qx HR.out.fm.hold,if_neg (show ¬keptV s.hs.n s.hs.z o l b=0 from H1.out),if_pos rfl] at k;exact k
 have e9:Hid (Calls prog 90 #[s.val] w2 λe w'=>∃s':St,e = .returned s'.val/\ae s' s/\ai w2.heap.size w' s'/\Below w2.heap.size w2 w'):=nd p s w2 m HR.out.fm;obtain⟨K,hK⟩:∃K,keptV s.hs.n s.hs.z o l b=K:=⟨_,rfl⟩;have HK:Hid (dy s o l b=K):=hK;rw[hK] at hn h2 nn ⊢;clear E m t A hK h3 gv;go_wp2_with(go_at_call 63;refine ah (ch _ _ _ _) ?_);rw[<-eo.out,<-fc.out];refine Calls.mono e9.out ?_;rintro e T ⟨d,rfl,q,cc,b7⟩;clear e9 l1 d0 d1 l2 c0 c1 c2 c3 c4 c5 c6 z1 ih i9 i2 y0 gx h2 ff eo fc;have P:o<d.os.n:=by rw[q.os.1];exact ho
 have xk:=q.os.2 o P;have fb:l<(d.os.z o).ls.n:=by rw[xk.2.1];exact hl
 have bu:b<d.on.n:=by rw[q.on.1,HR.out.fm.sh.n];exact hb
 have ig:g<(d.on.r b).n:=by rw[(q.on.2 b bu).1,HR.out.fm.sh.len b (by rw[HR.out.fm.sh.n];exact hb)];exact gl
 have fk:g<d.so.n:=by rw[q.so.1];exact sg
 have iu:=hid q;have fh:Hid ((0<=(d.on.r b).z g/\(d.on.r b).z g<=200)/\(0<=d.so.z g/\d.so.z g<=1048576)/\(0<=((d.os.z o).ls.z l).b/\((d.os.z o).ls.z l).b<=200)/\0<=((d.os.z o).ls.z l).n/\((d.os.z o).ls.z l).n<=200):=by
  have f:=HR.out.fm;have bl:=dz (f.line o ho l hl);refine⟨?_,?_,?_⟩
  .rw[q.num f hb gl];exact f.sh.num b (by rw[f.sh.n];exact hb) g gl
  .rw[q.so.2 g fk];exact f.sob g gl
  rw[q.line ho hl];omega
 have v0:=fh.out;obtain⟨B,eu,bt,K5⟩:∃W,T.alloc (.cells #[.slice d.on.a d.on.n d.on.c,.slice d.os.a d.os.n d.os.c,.slice hd.a hd.n hd.c,.slice d.ms.a d.ms.n d.ms.c,.slice d.si.a d.si.n d.si.c,.slice d.so.a d.so.n d.so.c,.slice d.sf.a d.sf.n d.sf.c] 31)=W/\Below T.heap.size T W/\Blk W T.heap.size 31 7 (λj=>(withHolds d hd).cells.getD j default):=⟨_,rfl,brf.alloc nlr _,Blk.mk' rfl rfl⟩;have co:Hid (T.alloc (.cells #[.slice d.on.a d.on.n d.on.c,.slice d.os.a d.os.n d.os.c,.slice hd.a hd.n hd.c,.slice d.ms.a d.ms.n d.ms.c,.slice d.si.a d.si.n d.si.c,.slice d.so.a d.so.n d.so.c,.slice d.sf.a d.sf.n d.sf.c] 31)=B):=eu;have bc:=b7.trans (bt.mono b7.size);have e0:=a0.trans (bc.mono a0.size);have A3:w2.heap.size<=T.heap.size:=b7.size;have L:Hid (de Y.heap.size T.heap.size J (withHolds d hd) B):=⟨((ai.below cc bt).mono A2).withHolds (h9.out.below bc),K5,e0,by have:=bc.size;omega⟩;clear eu cc K5 b7 bt bc e0 q a0 xk fh
 -- what lies there
 obtain⟨g0,G,a1,a2,a3,a4,a5,a6,a7,a8,a9,em,fo,es⟩:=L.out.own.onCell bu ig;have u0:B.cell? ⟨T.heap.size,0,none⟩=some (.slice d.on.a d.on.n d.on.c):=L.out.box.k 0;have ei:=L.out.box.lt;have et:d.on.a=some ⟨g0,0,none⟩:=a1;have er:B.cell? ⟨g0,b,none⟩=some (.slice (some ⟨G,0,none⟩) (d.on.r b).n (d.on.r b).c):=a3;have j2:(d.on.r b).n<=(d.on.r b).c:=a7;have ip:(d.on.r b).c<=maxLen:=a8;have fq:B.cell? ⟨G,g,none⟩=some (.int .i64 ((d.on.r b).z g)):=a9;have jk:d.on.n<=d.on.c:=fo;have fu:d.on.c<=maxLen:=es;have cz:=em g;rw[et] at u0;unfold maxLen at ip fu;have r0:(0:Int)<=(b:Int):=by omega
 have r1:(b:Int)<(d.on.n:Int):=by omega
 have r2:(g:Int)<((d.on.r b).n:Int):=by omega
 have fl:=L.out.own.setOn (b:=b) bu a4 g ((d.on.r b).z g-n);have GB:Blk B G 3 (d.on.r b).n (λj => .int .i64 ((d.on.r b).z j)):=by
  obtain⟨Gq,b1,b2,b3,b4,b5⟩:=L.out.own.rows b bu;rw[a4] at b1;simp only[Qkx,Qkz,and_true] at b1;subst b1;exact b5
 have M:Hid (de Y.heap.size T.heap.size J (setOn (withHolds d hd) b g ((d.on.r b).z g-n)) (B.setCell ⟨G,g,none⟩ (.int .i64 ((d.on.r b).z g-n)))):=⟨fl,L.out.box.other (a:=⟨G,g,none⟩) (Blk.ne2 L.out.box GB (by decide)) _,L.out.bel.setCell (p:=⟨G,g,none⟩) (by show J.heap.size<=G;omega) _,by have:=L.out.le;simpa using this⟩;clear a1 et a3 a4 a5 a7 a8 a9 em fo es fl GB
 -- what went
 obtain⟨F,e1,e2,e3,e4,e5,e6,e7⟩:=M.out.own.so.cellAt (g:=g) fk;have bg:d.so.a=some ⟨F,0,none⟩:=e1;have u5:(B.setCell ⟨G,g,none⟩ (.int .i64 ((d.on.r b).z g-n))).cell? ⟨T.heap.size,5,none⟩=some (.slice d.so.a d.so.n d.so.c):=M.out.box.k 5;have fa:=M.out.box.lt;rw[bg] at u5;have kb:d.so.n<=d.so.c:=e4;have jh:d.so.c<=maxLen:=e5;have fn:(B.setCell ⟨G,g,none⟩ (.int .i64 ((d.on.r b).z g-n))).cell? ⟨F,g,none⟩=some (.int .i64 (d.so.z g)):=e6;unfold maxLen at jh;have ey:=e7 g;have r3:(g:Int)<(d.so.n:Int):=by omega
 have GB:Blk (B.setCell ⟨G,g,none⟩ (.int .i64 ((d.on.r b).z g-n))) F 3 d.so.n (λj => .int .i64 (d.so.z j)):=by
  obtain⟨Gq,b1,b2,b3,b4,b5⟩:=M.out.own.so;have dn:d.so.a=some ⟨Gq,0,none⟩:=b1;rw[bg] at dn;simp only[Qkx,Qkz,and_true] at dn;subst dn;exact b5
 have H:Hid (de Y.heap.size T.heap.size J (setOut (setOn (withHolds d hd) b g ((d.on.r b).z g-n)) g (d.so.z g+n)) ((B.setCell ⟨G,g,none⟩ (.int .i64 ((d.on.r b).z g-n))).setCell ⟨F,g,none⟩ (.int .i64 (d.so.z g+n)))):=⟨M.out.own.setOut e1 g _,M.out.box.other (a:=⟨F,g,none⟩) (Blk.ne2 M.out.box GB (by decide)) _,M.out.bel.setCell (p:=⟨F,g,none⟩) (by show J.heap.size<=F;omega) _,by have:=M.out.le;simpa using this⟩;clear e1 bg e2 e4 e5 e6 e7 GB M
 -- the line
 obtain⟨gO,i,f1,f2,f3,f4,f5,f6,f7,f8,f9,be,cp,da,b0,bk⟩:=H.out.own.lineCell (o:=o) (l:=l) P fb;have ab:d.os.a=some ⟨gO,0,none⟩:=f1;have u1:((B.setCell ⟨G,g,none⟩ (.int .i64 ((d.on.r b).z g-n))).setCell ⟨F,g,none⟩ (.int .i64 (d.so.z g+n))).cell? ⟨T.heap.size,1,none⟩=some (.slice d.os.a d.os.n d.os.c):=H.out.box.k 1;have fj:=H.out.box.lt;rw[ab] at u1;have cv:=hid ab;have ao:Hid ((d.os.z o).ls.a=some ⟨i,0,none⟩):=f5;have ez:((B.setCell ⟨G,g,none⟩ (.int .i64 ((d.on.r b).z g-n))).setCell ⟨F,g,none⟩ (.int .i64 (d.so.z g+n))).cell? ⟨gO,o*2+1,none⟩=some (.slice (some ⟨i,0,none⟩) (d.os.z o).ls.n (d.os.z o).ls.c):=f4;have kf:(d.os.z o).ls.n<=(d.os.z o).ls.c:=f8;have g4:(d.os.z o).ls.c<=maxLen:=f9;have c8:((B.setCell ⟨G,g,none⟩ (.int .i64 ((d.on.r b).z g-n))).setCell ⟨F,g,none⟩ (.int .i64 (d.so.z g+n))).cell? ⟨i,l*4+2,none⟩=some (.int .i64 ((d.os.z o).ls.z l).b):=b0;have ka:d.os.n<=d.os.c:=H.out.own.os.le;have hh:d.os.c<=maxLen:=H.out.own.os.cap;unfold maxLen at g4 hh;have cf:=be (l*4+2);have r4:(o:Int)<(d.os.n:Int):=by omega
 have r5:(l:Int)<((d.os.z o).ls.n:Int):=by omega
 obtain⟨Bq,ad,gu,-,-,bi⟩:=H.out.own.os.lines o P;have S:(d.os.z o).ls.a=some ⟨Bq,0,none⟩:=ad;rw[ao.out] at S;simp only[Qkx,Qkz,and_true] at S;subst S;have V:Hid (de Y.heap.size T.heap.size J (setLine (setOut (setOn (withHolds d hd) b g ((d.on.r b).z g-n)) g (d.so.z g+n)) o l 2 (((d.os.z o).ls.z l).b+n)) (((B.setCell ⟨G,g,none⟩ (.int .i64 ((d.on.r b).z g-n))).setCell ⟨F,g,none⟩ (.int .i64 (d.so.z g+n))).setCell ⟨i,l*4+2,none⟩ (.int .i64 (((d.os.z o).ls.z l).b+n)))):=⟨H.out.own.setLine (o:=o) P ao.out l 2 (by decide) _,H.out.box.other (a:=⟨i,l*4+2,none⟩) (Blk.ne2 H.out.box bi (by decide)) _,H.out.bel.setCell (p:=⟨i,l*4+2,none⟩) (by show J.heap.size<=i;omega) _,by have:=H.out.le;simpa using this⟩;clear f1 ab f2 f4 f5 f6 f8 f9 be cp da b0 bk ad bi H;have h8:l<((setLine (setOut (setOn (withHolds d hd) b g ((d.on.r b).z g-n)) g (d.so.z g+n)) o l 2 (((d.os.z o).ls.z l).b+n)).os.z o).ls.n:=by rw[(dm o).1];exact fb
 obtain⟨jd,hk,f1,f2,g3,f4,f5,f6,g7,f8,f9,be,cp,da,b0,bk⟩:=V.out.own.lineCell (o:=o) (l:=l) P h8;have ab:d.os.a=some ⟨jd,0,none⟩:=f1;rw[cv.out] at ab;simp only[Qkx,Qkz,and_true] at ab;subst ab;rw[(dm o).2.1] at f5;have c9:(d.os.z o).ls.a=some ⟨hk,0,none⟩:=f5;rw[ao.out] at c9;simp only[Qkx,Qkz,and_true] at c9;subst c9;rw[(dm o).1,(dm o).2.2] at f4;have fe:(((B.setCell ⟨G,g,none⟩ (.int .i64 ((d.on.r b).z g-n))).setCell ⟨F,g,none⟩ (.int .i64 (d.so.z g+n))).setCell ⟨i,l*4+2,none⟩ (.int .i64 (((d.os.z o).ls.z l).b+n))).cell? ⟨gO,o*2+1,none⟩=some (.slice (some ⟨i,0,none⟩) (d.os.z o).ls.n (d.os.z o).ls.c):=f4;rw[ou,if_pos ⟨rfl,rfl⟩] at bk;have dp:(((B.setCell ⟨G,g,none⟩ (.int .i64 ((d.on.r b).z g-n))).setCell ⟨F,g,none⟩ (.int .i64 (d.so.z g+n))).setCell ⟨i,l*4+2,none⟩ (.int .i64 (((d.os.z o).ls.z l).b+n))).cell? ⟨i,l*4+3,none⟩=some (.int .i64 ((d.os.z o).ls.z l).n):=bk;have dj:=be (l*4+3);have cx:Hid (((setLine (setOut (setOn (withHolds d hd) b g ((d.on.r b).z g-n)) g (d.so.z g+n)) o l 2 (((d.os.z o).ls.z l).b+n)).os.z o).ls.a=some ⟨i,0,none⟩):=by show _=_;rw[(dm o).2.1];exact ao.out
 obtain⟨Bq,ad,gu,-,-,bi⟩:=V.out.own.os.lines o P;have S:=ad;rw[cx.out] at S;simp only[Qkx,Qkz,and_true] at S;subst S;have bx:Hid (de Y.heap.size T.heap.size J (ud d hd o l b g n K) ((((B.setCell ⟨G,g,none⟩ (.int .i64 ((d.on.r b).z g-n))).setCell ⟨F,g,none⟩ (.int .i64 (d.so.z g+n))).setCell ⟨i,l*4+2,none⟩ (.int .i64 (((d.os.z o).ls.z l).b+n))).setCell ⟨i,l*4+3,none⟩ (.int .i64 (((d.os.z o).ls.z l).n+(K-n))))):=⟨V.out.own.setLine (o:=o) P cx.out l 3 (by decide) _,V.out.box.other (a:=⟨i,l*4+3,none⟩) (Blk.ne2 V.out.box bi (by decide)) _,V.out.bel.setCell (p:=⟨i,l*4+3,none⟩) (by show J.heap.size<=i;omega) _,by have:=V.out.le;simpa using this⟩;clear f1 f2 f4 f5 f6 f8 f9 be cp da b0 bk ad bi V;have ap:Hid (ae (ud d hd o l b g n K) (cg s o l b n)):=by have h:=Gc (n:=n) iu.out HI.out ek.out.1 ek.out.2;rw[HG.out,HK.out] at h;exact h
 have yk:((ud d hd o l b g n K).os.z o).ls.n=(d.os.z o).ls.n/\((ud d hd o l b g n K).os.z o).ls.a=(d.os.z o).ls.a/\((ud d hd o l b g n K).os.z o).ls.c=(d.os.z o).ls.c:=by
  unfold ud;rw[(dm o).1,(dm o).1,(dm o).2.1,(dm o).2.1,(dm o).2.2,(dm o).2.2];exact⟨rfl,rfl,rfl⟩
 have bm:=hid yk;obtain⟨gq,Q,dc,h3,h4,h5,h6⟩:=bx.out.own.orderCells (o:=o) P;have ct:d.os.a=some ⟨gq,0,none⟩:=Q;rw[cv.out] at ct;simp only[Qkx,Qkz,and_true] at ct;subst ct;rw[yk.1,yk.2.1,yk.2.2,ao.out] at h5;have e8:Hid (Hs.At ((((B.setCell ⟨G,g,none⟩ (.int .i64 ((d.on.r b).z g-n))).setCell ⟨F,g,none⟩ (.int .i64 (d.so.z g+n))).setCell ⟨i,l*4+2,none⟩ (.int .i64 (((d.os.z o).ls.z l).b+n))).setCell ⟨i,l*4+3,none⟩ (.int .i64 (((d.os.z o).ls.z l).n+(K-n)))) ((ud d hd o l b g n K).os.z o).ls):=by
  obtain⟨_,_,_,_,_,_,h⟩:=bx.out.own.at.os.ods o P;exact h
 have ev:Hid (Calls prog 101 #[.slice (some ⟨i,0,none⟩) (d.os.z o).ls.n (d.os.z o).ls.c] ((((B.setCell ⟨G,g,none⟩ (.int .i64 ((d.on.r b).z g-n))).setCell ⟨F,g,none⟩ (.int .i64 (d.so.z g+n))).setCell ⟨i,l*4+2,none⟩ (.int .i64 (((d.os.z o).ls.z l).b+n))).setCell ⟨i,l*4+3,none⟩ (.int .i64 (((d.os.z o).ls.z l).n+(K-n)))) λe w'=>e = .returned (.bool (j6 (ud d hd o l b g n K) o))/\Below ((((B.setCell ⟨G,g,none⟩ (.int .i64 ((d.on.r b).z g-n))).setCell ⟨F,g,none⟩ (.int .i64 (d.so.z g+n))).setCell ⟨i,l*4+2,none⟩ (.int .i64 (((d.os.z o).ls.z l).b+n))).setCell ⟨i,l*4+3,none⟩ (.int .i64 (((d.os.z o).ls.z l).n+(K-n)))).heap.size ((((B.setCell ⟨G,g,none⟩ (.int .i64 ((d.on.r b).z g-n))).setCell ⟨F,g,none⟩ (.int .i64 (d.so.z g+n))).setCell ⟨i,l*4+2,none⟩ (.int .i64 (((d.os.z o).ls.z l).b+n))).setCell ⟨i,l*4+3,none⟩ (.int .i64 (((d.os.z o).ls.z l).n+(K-n)))) w'):=by
  have h:=Tv ((ud d hd o l b g n K).os.z o).ls ((((B.setCell ⟨G,g,none⟩ (.int .i64 ((d.on.r b).z g-n))).setCell ⟨F,g,none⟩ (.int .i64 (d.so.z g+n))).setCell ⟨i,l*4+2,none⟩ (.int .i64 (((d.os.z o).ls.z l).b+n))).setCell ⟨i,l*4+3,none⟩ (.int .i64 (((d.os.z o).ls.z l).n+(K-n)))) e8.out;rw[bm.out.1,bm.out.2.1,bm.out.2.2,ao.out] at h;have e:j6 (ud d hd o l b g n K) o = !aw (d.os.z o).ls.n (λj=>jr (((ud d hd o l b g n K).os.z o).ls.z j)):=by unfold j6;rw[bm.out.1]
  rw[e];exact h
 clear yk Q dc h4 h6 e8;rw[<-co.out] at u0 ei a2 er a6 fq cz u5 fa e3 fn ey u1 fj f3 ez f7 c8 cf g3 fe g7 dp dj h3 h5;simp only[St.val];go_wp2_with fail;rw[co.out];clear u0 ei a2 er a6 fq cz u5 fa e3 fn ey u1 fj f3 ez f7 c8 cf g3 fe g7 dp dj h3 h5 co L;refine Calls.mono ev.out ?_;rintro e wx ⟨rfl,fi⟩;have D:=hid (bx.out.below fi);clear ev bx fi
 generalize T.heap.size=B7 at *
 have ds:Hid (j6 (ud d hd o l b g n K) o=j6 (cg s o l b n) o):=Ef ap.out ho;obtain⟨y,hy⟩:∃y,ud d hd o l b g n K=y:=⟨_,rfl⟩;have yo:y.os.a=d.os.a/\y.os.n=d.os.n/\y.os.c=d.os.c:=by rw[<-hy];exact⟨rfl,rfl,rfl⟩
 have dv:Hid (y.os.a=some ⟨gO,0,none⟩):=by show y.os.a=_;rw[yo.1];exact cv.out
 have dk:o<y.os.n:=by rw[yo.2.1];exact P
 rw[hy] at D ap ds ⊢;clear hy yo bm;cases bz:j6 y o;rotate_left
 .have gy:Hid (j6 (cg s o l b n) o=true):=ds.out.symm.trans bz;clear bz;obtain⟨gq,Q,dc,h3,h4,h5,h6⟩:=D.out.own.orderCells (o:=o) dk;rw[dv.out] at Q;simp only[Qkx,Qkz,and_true] at Q;subst Q;have j3:=h6 (o*2);obtain⟨gq,b1,b2,b3⟩:=D.out.own.os.list (by omega);rw[dv.out] at b1;simp only[Qkx,Qkz,and_true] at b1;subst b1;have gg:gO≠B7:=Blk.ne2 b3 D.out.box (by decide);have bw:Hid (de Y.heap.size B7 J (dh y o 2) (wx.setCell ⟨gO,o*2,none⟩ (.int .i64 2))):=⟨D.out.own.kind (o:=o) dk dv.out 2,D.out.box.other (a:=⟨gO,o*2,none⟩) gg.symm _,D.out.bel.setCell (p:=⟨gO,o*2,none⟩) (by show J.heap.size<=gO;omega) _,by have:=D.out.le;simpa using this⟩;have bv:Hid (ae (dh y o 2) (pi p s o l b n)):=by
   unfold pi;rw[gy.out,if_pos rfl];exact F0 ap.out o 2
  generalize dh y o 2=x at bw bv
  obtain⟨m1,p0,p1,p2,p3,p4,p5,p6⟩:=Boxed.of bw.out.box;obtain⟨-,-,-,t,A⟩:=HC.out _ bw.out.bel;have HZ:=qa2 t A;obtain⟨zl,aj,an,av,zc1,ak,zc2,ax,zc3,af,zc4,ar,zc5,al,am⟩:=z7 A;have gp:=(HC.out _ brf).2.2.2.1.size;clear dc h5 h6 b2 b3 t A D
  generalize (y.os.z o).k=KK at *
  go_wp2_with fail;have KZ:=s7b HZ.out.2 x;have bq:=s7w (b:=w.heap.size+2) HZ.out.1 (by omega) x;have aa:=s7o bw.out.own HZ.out.2 x;unfold set7 at KZ bq aa;obtain⟨db,dt,dl,cs,cy,d4,dr⟩:=cn KZ;refine Xzq (v := .tuple #[x.val,.int .i64 0]) (by simp[results,results45,go_sem,St.val,db,dt,dl,cs,cy,d4,dr]) rfl ?_;exact⟨x,by rw[U.out];rfl,aa.at,⟨λ_=>bv.out,λh=>absurd U.out h⟩,λ_=>aa.mono (by omega),bq⟩
 have fg:Hid (j6 (cg s o l b n) o=false):=ds.out.symm.trans bz;have ie:Hid (j5 p b y o l (K-n)):=by have h:=(df.out.stepIn fg.out).same ap.out;rw[HK.out] at h;exact h
 have i8:Hid ((y.os.z o).k=1):=(ap.out.os.2 o dk).1.trans ((mu s o l b n o).1.trans HI.out.kind);have dw:Hid (ew p y o l (K-n) b=0):=by have I:=ie.out.allocIn i8.out;exact I.less ⟨I.n0,Int.le_refl _⟩
 clear bz;obtain⟨⟨⟨l1,d0,d1⟩,l2,c0,c1,c2,c3,c4,c5,c6⟩,E,m,t,A⟩:=HC.out wx D.out.bel;obtain⟨m1,p0,p1,p2,p3,p4,p5,p6⟩:=Boxed.of D.out.box;have fd:=hid E;clear E m t A l2 c0 c1 c2 c3 c4 c5 c6;go_wp2_with fail;clear l1 d0 d1 m1 p0 p1 p2 p3 p4 p5 p6;refine(Kc p y o l (K-n) b wx fd.out D.out.own.at).mono ?_;rintro e wt ⟨x,rfl,il,ej,cd,ex⟩;have HT:Hid (lg p b y o l (K-n) x):=ej.1 dw.out;have io:Hid (ai Y.heap.size wt x):=(cd dw.out).mono D.out.le;have ay:=hid (D.out.below ex);have u:=ay.out.box;have bl0:=u.lt;have kj:=u.frozen 0;have kn:=u.k 0;have kg:=u.frozen 1;have kk:=u.k 1;have j4:=u.frozen 2;have kd:=u.k 2;have ki:=u.frozen 3;have j9:=u.k 3;have ke:=u.frozen 4;have kc:=u.k 4;have km:=u.frozen 5;have kl:=u.k 5;have ko:=u.frozen 6;have kh:=u.k 6;rw[dw.out];clear il ej cd ex fd u
 generalize Bl p y o l (K-n) b=LL at *
 obtain⟨-,-,-,t,A⟩:=HC.out wt ay.out.bel;have HZ:=qa2 t A;have gp:=(HC.out _ brf).2.2.2.1.size;have jg:B7≠w.heap.size+2:=by have:=ay.out.box.lt;omega
 have KX:=s7b ay.out.box x;have di:=xq A (λe=>jg e.symm) (.slice x.on.a x.on.n x.on.c) (.slice x.os.a x.os.n x.os.c) (.slice x.hs.a x.hs.n x.hs.c) (.slice x.ms.a x.ms.n x.ms.c) (.slice x.si.a x.si.n x.si.c) (.slice x.so.a x.so.n x.so.c) (.slice x.sf.a x.sf.n x.sf.c);obtain⟨jc,g1,i3,jb,gt,he,je⟩:=cn KX;have xm:=KX.lt;obtain⟨zl,aj,an,av,zc1,ak,zc2,ax,zc3,af,zc4,ar,zc5,al,am⟩:=z7 di;have iy:Hid (Below J.heap.size J (set7 wt B7 (.slice x.on.a x.on.n x.on.c) (.slice x.os.a x.os.n x.os.c) (.slice x.hs.a x.hs.n x.hs.c) (.slice x.ms.a x.ms.n x.ms.c) (.slice x.si.a x.si.n x.si.c) (.slice x.so.a x.so.n x.so.c) (.slice x.sf.a x.sf.n x.sf.c))):=s7w (b:=B7) ay.out.bel (by omega) x;have hj:Hid (ai Y.heap.size (set7 wt B7 (.slice x.on.a x.on.n x.on.c) (.slice x.os.a x.os.n x.os.c) (.slice x.hs.a x.hs.n x.hs.c) (.slice x.ms.a x.ms.n x.ms.c) (.slice x.si.a x.si.n x.si.c) (.slice x.so.a x.so.n x.so.c) (.slice x.sf.a x.sf.n x.sf.c)) x):=s7o io.out ay.out.box x;have eq:=hid di;have bv:Hid (ae x (pi p s o l b n)):=by
  unfold pi;rw[fg.out,if_neg (by decide)];have tk:=xu (but:=(b:Int)) df.out.takeIn;have T':=HT.out;rw[<-HK.out] at T';exact lg.same df.out.takeIn ap.out tk T'
 clear t A KX di;unfold set7 at jc g1 i3 jb gt he je xm zl aj av ak ax af ar al an zc1 zc2 zc3 zc4 zc5 am;simp only[St.val];go_wp2_with fail;have KZ:=s7b eq.out x;have bq:=s7w (b:=w.heap.size+2) ((HC.out _ iy.out).2.2.2.1) (by omega) x;have aa:=s7o hj.out eq.out x;unfold set7 at KZ bq aa;obtain⟨db,dt,dl,cs,cy,d4,dr⟩:=cn KZ;refine Xzq (v := .tuple #[x.val,.int .i64 0]) (by simp[results,results45,go_sem,St.val,db,dt,dl,cs,cy,d4,dr]) rfl ?_;exact⟨x,by rw[U.out];rfl,aa.at,⟨λ_=>bv.out,λh=>absurd U.out h⟩,λ_=>aa.mono (by omega),bq⟩
def Iw(o:Oper):Bool:=yh o||match o.op with
 | .extract ..=>true
 | .build ..=>true
 | .field ..=>true
 | .index ..=>true
 | .unOp ..=>true
 | _=>false
theorem S2{P:Program}{o:Oper}{ρ:Operand->Value}{w b:World}{n:Next}(a:Iw o=true)(h:(execOp ρ o).run P w = .ok n b):∃v,n = .value v:=by
 unfold Iw at a;rw[Bool.or_eq_true] at a;rcases a with a|a
 .exact Bj a h
 unfold execOp at h
 split at a
 all_goals first
  | (cases a;done)
  | (rename_i hx;rw[hx] at h;exact Xw h)
theorem Fb{P:Program}{l:List Oper}{Q:Exit->Act->World->Prop}{S:World->Prop}{T:Nat->Bool}{N:Nat}{K:Act->Prop}{w:World}{fuel:Nat}(hs:Region.noSelect l.toArray=true)(f:S w)(p:∀c a a' w,Q (.panic c) a w->Q (.panic c) a' w):
  ∀(d:List Nat) (os:List Oper) (b:Array Bool) (a:Act),sd l.toArray d b=true->(∀k∈d,T k=false/\∀j,T j=true->rv l.toArray N j k=true)->ni l.toArray b->d.map (λk=>l[k]?)=os.map some->(os.all Iw)=true ->
   wpQuiet P l.toArray S K os a->(∀a,K a->ni l.toArray (ip b d)->nt P l.toArray Q S T fuel (ip b d) a w)->nt P l.toArray Q S T (d.length+fuel) b a w
 | [],[],b,a,_,_,hc,_,_,h,hK=>by rw[List.length_nil,Nat.zero_add];exact hK a h hc
 | k :: d,o :: os,b,a,hB,hTk,hc,hk,hv,h,hK=>by
  simp only[List.map_cons,List.cons.injEq] at hk;simp only[List.all_cons,Xxx] at hv;simp only[sd,Xxx] at hB;rw[List.length_cons,Nat.add_right_comm];have e:k∈Region.ready .any l.toArray b:=by simpa using hB.1.1
  have go:∀v,YieldsIf P l.toArray S o v a->nt P l.toArray Q S T (d.length+fuel) (b.setIfInBounds k true) (a.put o.dst v) w->nt P l.toArray Q S T (d.length+fuel+1) b a w :=
   λv y z=>Iy (N:=N) (by simpa using hk.1) (Region.noSelect_spec hs) (λc a w i=>p _ _ _ _ i) (hTk k (by simp)).2 (hTk k (by simp)).1 _ b a w (Region.free_spec (by simpa using hk.1) hB.1.2) e hc y f z
  have again:=λ(a:Act) (i:wpQuiet P l.toArray S K os a)=>Fb (N:=N) (T:=T) (fuel:=fuel) hs f p d os _ a hB.2 (λA r=>hTk A (by simp[r])) (hc.set e) hk.2 hv.2 i hK;unfold wpQuiet at h
  split at h
  .rename_i g;obtain⟨v,s,t⟩:=h;refine go v (.inl ⟨g,λq f => ?_⟩) (again _ t);have:=s q f;unfold Oper.quietAt at this;cases m:(execOp a.eval o).run P q with
   | ok n w2 =>
    rw[m] at this;obtain⟨u,rfl⟩:=S2 hv.1 m;simp only[Oper.quietUpon] at this;rw[this.1,this.2]
   | halt x w2=>rw[m] at this;exact this.elim
  rename_i g;exact go undef (.inr ⟨by simpa using g,rfl⟩) (again _ h)
 | [],_ :: _,_,_,_,_,_,hk,_,_,_=>by simp at hk
 | _ :: _,[],_,_,_,_,_,hk,_,_,_=>by simp at hk
def Ey(n:Nat)(listed:Array Bool):List Nat:=(List.range n).filter (λi => !listed.getD i true)
def phB(ops:Array Oper):List (Bool × List Nat × Option Nat)->Array Bool->Bool
 | [],listed=>Region.ready .any ops listed==[]
 | (t,ks,c) :: r,listed=>sd ops ks listed&&ks.all (λk=>decide (k<ops.size))&&ks.all (λk => !(Ey ops.size (ip listed ks)).contains k)&&(!t||ks.all (λk=>(Ey ops.size (ip listed ks)).all (λj=>rv ops ops.size j k))) &&
   (match c with|some c=>(Region.ready .any ops (ip listed ks)==[c])&&phB ops r ((ip listed ks).setIfInBounds c true)|none=>phB ops r (ip listed ks))
def phN:List (Bool × List Nat × Option Nat)->Nat
 | []=>0
 | (_,ks,some _) :: r=>ks.length+(phN r+1)
 | (_,ks,none) :: r=>ks.length+phN r
def Vq(P:Program)(l:List Oper)(Q:Exit->Act->World->Prop):List (Bool × List Nat × Option Nat)->Act->World->Prop
 | [],a,w=>Q .normal a w
 | (t,ks,some c) :: r,a,w=>∃S:World->Prop,S w/\(t=false->∀w',S w')/\wpQuiet P l.toArray S (λa1=>wpOp P l.toArray Q c (λa2 w2=>Vq P l Q r a2 w2) a1 w) (dv l ks) a
 | (t,ks,none) :: r,a,w=>∃S:World->Prop,S w/\(t=false->∀w',S w')/\wpQuiet P l.toArray S (λa1=>Vq P l Q r a1 w) (dv l ks) a
theorem G6{P:Program}{c:Array Oper}{Q:Exit->Act->World->Prop}{S:World->Prop}{T:Nat->Bool}:∀(fuel:Nat) (b:Array Bool) (a:Act) (w:World),(∀i,b.getD i true=false->i<c.size->T i=true\/∀w,S w)->wpAny P .any c Q fuel b a w->nt P c Q S T fuel b a w
 | 0,_,_,_,_,h=>h
 | fuel+1,b,a,w,hT,h=>⟨h.1,λi hi=>wpOp_mono (λm k n=>⟨λd=>by
   obtain⟨l,o,p,_⟩:=mem_ready.1 hi;rcases hT i l (Qkq p).1 with e|e
   .rw[e] at d;cases d
   .exact e k,G6 fuel _ m k (λj f g=>hT j (by
   by_cases e:i=j
   .subst e;exact(mem_ready.1 hi).1
   rw[getD_set_ne true e] at f;exact f) g) n⟩) (h.2 i hi)⟩
theorem Kw{P:Program}{l:List Oper}{Q:Exit->Act->World->Prop}(hs:Region.noSelect l.toArray=true)(v:∀c a a' w,Q (.panic c) a w->Q (.panic c) a' w):∀(s:List (Bool × List Nat × Option Nat)) (b:Array Bool) (a:Act) (w:World),
   phB l.toArray s b=true->(s.all (λx=>(dv l x.2.1).all Iw))=true->ni l.toArray b->Vq P l Q s a w->wpAny P .any l.toArray Q (phN s) b a w
 | [],b,a,w,hB,_,_,h=>⟨by simpa[phB] using hB,h⟩
 | (t,ks,c) :: r,b,a,w,hB,hv,hcl,h=>by
  simp only[phB,Xxx] at hB;obtain⟨⟨⟨⟨b1,b2⟩,b3⟩,b4⟩,b5⟩:=hB;simp only[List.all_cons,Xxx] at hv;have key:=λ(S:World->Prop) (K:Act->Prop) (f:Nat) (q:S w) (m:t=false->∀w',S w') (o:wpQuiet P l.toArray S K (dv l ks) a) (E:∀a1,K a1->ni l.toArray (ip b ks)->wpAny P .any l.toArray Q f (ip b ks) a1 w)=>Ai _ _ _ _ (Fb (P:=P) (Q:=Q) (S:=S) (T:=λi=>t&&(Ey l.toArray.size (ip b ks)).contains i) (N:=l.toArray.size) (fuel:=f) (w:=w) hs q v ks (dv l ks) b a b1
   (λk A=>⟨by
    have:=List.all_eq_true.1 b3 k A;rw[Bool.not_eq_true'] at this;rw[this,Bool.and_false],λj u=>by
    rw[Xxx] at u;have p:=b4;rw[u.1] at p;simp only[Bool.not_true,Bool.false_or] at p;exact List.all_eq_true.1 (List.all_eq_true.1 p k A) j (by simpa using u.2)⟩)
   hcl (Az (by simpa using b2)) hv.1 o (λa1 n d=>by
    refine G6 _ _ _ _ (λi hi z => ?_) (E a1 n d);cases t with
    | false=>exact Or.inr (m rfl)
    | true =>
     left
     have:i∈Ey l.toArray.size (ip b ks):=by
      unfold Ey;rw[List.mem_filter,List.mem_range];exact⟨z,by rw[hi];rfl⟩
     simpa using this))
  cases c with
  | none =>
   obtain⟨S,q,m,o⟩:=h;exact key S _ (phN r) q m o λa1 n d=>Kw hs v r _ a1 w b5 hv.2 d n
  | some c =>
   obtain⟨S,q,m,o⟩:=h;simp only[Xxx] at b5;have g:Region.ready .any l.toArray (ip b ks)=[c]:=by simpa using b5.1
   refine key S _ (phN r+1) q m o λa1 n d => ?_;refine⟨λe=>(by rw[g] at e;cases e),λi hi => ?_⟩;have y:i=c:=by rw[g] at hi;simpa using hi
   subst y;exact wpOp_mono (λD B F=>Kw hs v r _ D B b5.2 hv.2 (d.set hi) F) n
theorem i9{P:Program}{l:List Oper}{Q:Exit->Act->World->Prop}{id:Nat}{a:Act}{w:World}(b:List (Bool × List Nat × Option Nat))(h:Vq P l (NoPanic Q) b a w.drew)(d:P.follows .mixedOrders=true:=by kernel_rfl)(hs:Region.noSelect l.toArray=true:=by kernel_rfl)(e:phB l.toArray b (Array.replicate l.length false)=true:=by kernel_rfl)(g:(b.all (λx=>(dv l x.2.1).all Iw))=true:=by kernel_rfl)(f:phN b=l.length:=by kernel_rfl):(Code.region id l.toArray true).wp P Q a w:=by
 refine wp_region_noPanic (wp_region_any d ?_);have:=Kw (Q:=NoPanic Q) hs (λc a i w h=>(h:False).elim) b _ a w.drew e g (ni.none _ _) h;rw[f] at this
 simpa using this
theorem kq{P:Program}{l:List Oper}{Q:Exit->Act->World->Prop}{K:Act->World->Prop}(k:Nat){o:Oper}{a:Act}{w:World}(b:l[k]?=some o)
  (h:wpList P l.toArray (Exit.then K Q) [o] a w):wpOp P l.toArray Q k K a w:=ay k b h
def ji(A B:World):Prop:=A.heap.size<=B.heap.size/\∀(g:Nat) (cur:Array Value) (e:TypeId) (z:Nat × Nat),A.heap[g]?=some (.cells cur e z)->B.heap[g]?=A.heap[g]?
theorem ji.of{A B:World}{row:Option Nat}(b:A.grownBy B row)(c:∀r,row=some r->∃o:Obj,A.heap[r]?=some o/\o.isCells=false):ji A B :=
 ⟨b.size,λg cur e z h=>b.block g (Qkq h).1 (λk=>by
  obtain⟨o,a,hc⟩:=c g k.symm;rw[h] at a;cases a;cases hc)⟩
theorem Blk.ck{A B:World}{g:Nat}{e:TypeId}{n:Nat}{f:Nat->Value}(h:Blk A g e n f)(k:ji A B):Blk B g e n f:=by
 obtain⟨cur,hc,a⟩:=h;exact Blk.same ⟨cur,hc,a⟩ (k.2 g cur e (0,0) hc)
theorem ju.ck{M:Nat}{A B:World}{r:Rw}(h:ju M A r)(k:ji A B):ju M B r:=by
 obtain⟨g,d,c,a,b,e⟩:=h;exact⟨g,d,c,a,b,e.ck k⟩
theorem fo.ck{M:Nat}{A B:World}{e:TypeId}{size:Nat}{a:Option Addr}{c:Nat}(h:fo M A e size a c)(k:ji A B):fo M B e size a c :=
 h.same λg cur b=>k.2 g cur e (0,0) b
theorem j7.ck{M:Nat}{A B:World}{s:Os}(h:j7 M A s)(k:ji A B):j7 M B s:=by
 refine⟨h.le,h.cap,λf => ?_,λi hi => ?_,h.apart,h.room.ck k⟩
 .obtain⟨g,a,b,c⟩:=h.list f;exact⟨g,a,b,c.ck k⟩
 obtain⟨C,a,b,c,d,e⟩:=h.lines i hi;exact⟨C,a,b,c,d,e.ck k⟩
theorem cy.ck{M:Nat}{e:TypeId}{A B:World}{s:Hs}(h:cy M e A s)(k:ji A B):cy M e B s:=by
 obtain⟨c,l,b,d⟩:=h;refine⟨c,l,b,λf => ?_⟩;obtain⟨g,j,a,i⟩:=d f;exact⟨g,j,a,i.ck k⟩
theorem ai.ck{M:Nat}{A B:World}{s:St}(h:ai M A s)(k:ji A B):ai M B s:=by
 refine⟨?_,λi hi=>(h.rows i hi).ck k,h.rapart,h.os.ck k,h.hs.ck k,h.ms.ck k,h.msr.ck k,h.si.ck k,h.so.ck k,h.sf.ck k,h.aio,h.aif,h.aof,h.ari⟩;obtain⟨g,c,b,a,e,d⟩:=h.on;exact⟨g,c,b,a,e,d.ck k⟩
theorem ai.low{M e:Nat}{A:World}{s:St}(h:ai M A s)(b:e<=M):ai e A s:=by
 refine⟨?_,λi hi => ?_,h.rapart,h.os.mono b,h.hs.mono b,h.ms.mono b,h.msr.mono b,?_,?_,?_,h.aio,h.aif,h.aof,h.ari⟩
 .obtain⟨g,d,c,a⟩:=h.on;exact⟨g,d,Qzx b c,a⟩
 .obtain⟨g,d,c,a⟩:=h.rows i hi;exact⟨g,d,Qzx b c,a⟩
 .obtain⟨g,d,c,a⟩:=h.si;exact⟨g,d,Qzx b c,a⟩
 .obtain⟨g,d,c,a⟩:=h.so;exact⟨g,d,Qzx b c,a⟩
 obtain⟨g,d,c,a⟩:=h.sf;exact⟨g,d,Qzx b c,a⟩
theorem ji.below{A B:World}(h:Below A.heap.size A B):ji A B:=⟨h.size,λg cur e z a=>h.block g (Qkq a).1⟩
theorem Fc{F:Fence}{H:Nat}{P:Program}(w:World){B:Array Oper}{rest:List Oper}{o:Oper}{a:Act}{Q:Exit->Act->World->Prop}
  (Y:o.guard=none) (s x:Operand) (t:TypeId) (f:o.op=Op.call { callee:=Callee.builtin Builtin.append,args:=#[s,x],argTypes:=#[t,t] })
  (e:TypeId) (i:TypeInfo) (z:Value) (size bytes:Nat) (G:P.underlying t=some (.slice e)) (S:P.info? e=some i) (J:i.zero=some z) (T:i.size=size) (X:i.bytes=bytes) (U:z.cells.size=size) (L:0<size)
  (p:Option Addr) (n cap:Nat) (d:List Value) (hs:a.eval s = .slice p n cap) (q:p=none->n=0/\cap=0) (A:d.length=n*size) (holds:∀b,p=some b->∀j u,d[j]?=some u->w.cell? (b.add j)=some u)
  (r:Addr) (m c:Nat) (news:List Value) (hx:a.eval x = .slice (some r) m c) (V:news.length=m*size) (hc:∀j u,news[j]?=some u->w.cell? (r.add j)=some u) (W:∀u∈news,u.oneCell'=true)
  (v:cap<n+m) (b1:n+m<=maxLen) (b2:(n+m)*bytes<=140737488355328)
  (M:∀k g,g.ownsRow w.heap.size e size k (n+m) (d++news)->w.grownBy g none->wpListIn F H P B Q rest (a.put o.dst k) g) :
  wpListIn F H P B Q (o :: rest) a w:=by
 refine wpListIn_plain Y λK y => ?_;cases p with
 | some b =>
  obtain⟨k,g,h,E,D⟩:=run_append_arg_grows (P:=P) w t o.type e i z size bytes G S J T X U L b n cap d A (holds b rfl) r m c news V hc v b1 b2;unfold Oper.wpIn;refine⟨?_,?_⟩
  .simp[Oper.about,f,resolve,Target.leads,Sem.run_pure]
  rw[Oper.semAt_plain F _ _ (by rw[f];intro c l;cases l)];simp[execOp,f,resolve,invoke,builtin,hs,hx,h,Result.andThen];exact y _ _ (M k g E D)
 | none =>
  obtain⟨rfl,rfl⟩:=q rfl;obtain rfl:d=[]:=List.eq_nil_of_length_eq_zero (by simpa using A);obtain⟨k,g,h,E,D,_⟩:=run_append_own (P:=P) w w.heap.size t o.type e i z size bytes G S J T X U L (.slice none 0 0) 0 [] (World.ownsRow_nil w _ e size) r m c news V hc W b1 b2 nlr;unfold Oper.wpIn;refine⟨?_,?_⟩
  .simp[Oper.about,f,resolve,Target.leads,Sem.run_pure]
  rw[Oper.semAt_plain F _ _ (by rw[f];intro c l;cases l)];simp[execOp,f,resolve,invoke,builtin,hs,hx,h,Result.andThen];exact y _ _ (M k g E D)
theorem Gw{F:Fence}{nF:Nat}{P:Program}(w:World){G:Array Oper}{rest:List Oper}{o:Oper}{a:Act}{Q:Exit->Act->World->Prop}
  (Y:o.guard=none) (s x:Operand) (t:TypeId) (D:o.op=Op.call { callee:=Callee.builtin Builtin.append,args:=#[s,x],argTypes:=#[t,t] })
  (A:Nat) (e:TypeId) (i:TypeInfo) (z:Value) (size bytes:Nat) (h1:P.underlying t=some (.slice e)) (h2:P.info? e=some i) (W:i.zero=some z) (h4:i.size=size) (h5:i.bytes=bytes) (h6:z.cells.size=size) (X:0<size)
  (v:Option Addr) (n c:Nat) (l:List Value) (hs:a.eval s = .slice v n c) (r:fo A w e size v c) (V:n<=c) (S:c<=maxLen) (E:l.length=n*size) (K:0<n->∃g,v=some ⟨g,0,none⟩/\A<=g/\Blk w g e (n*size) (λj=>l.getD j default))
  (p:Addr) (m L:Nat) (news:List Value) (hx:a.eval x = .slice (some p) m L) (hn:news.length=m*size) (hc:∀j u,news[j]?=some u->w.cell? (p.add j)=some u) (H:∀u∈news,u.oneCell'=true)
  (hm:0<m) (b1:n+m<=maxLen) (b2:(n+m)*bytes<=140737488355328) (hA:A<=w.heap.size)
  (hK:∀f d,d.ownsRow A e size f (n+m) (l++news)->pk A e w d->wpListIn F nF P G Q rest (a.put o.dst f) d) :
  wpListIn F nF P G Q (o :: rest) a w:=by
 rcases r with h0|⟨g,cur,ha,B,y,ac⟩
 .subst h0;have ak:n=0:=by omega
  subst ak;obtain rfl:l=[]:=List.eq_nil_of_length_eq_zero (by simpa using E);refine Fc w Y s x t D e i z size bytes h1 h2 W h4 h5 h6 X v 0 0 [] hs (λ_=>⟨rfl,rfl⟩) (by simp) (λb _ j u hj=>by simp at hj) p m L news hx hn hc H (by omega) b1 b2 λf d M T => ?_;exact hK f d (O8 M hA) ⟨none,T,λk q=>by cases q⟩
 subst ha;have J:=Np (w:=w) (e:=e) B y ac V S E (λh=>by
  obtain⟨g',U,_,hb⟩:=K h;simp only[Qkx,Qkz,and_true] at U;subst U;exact hb)
 refine wpListIn_append_own w Y s x t D A e i z size bytes h1 h2 W h4 h5 h6 X _ n l hs J p m L news hx hn hc H b1 b2 hA λf d M T _ => ?_;refine hK f d M ⟨_,T,λk q => ?_⟩;simp only[Value.ownBlock,Qkx] at q;subst q;exact⟨B,cur,y⟩
theorem pk.keeps{A:Nat}{e:TypeId}{w b:World}(h:pk A e w b):KeepsOthers w b:=by
 obtain⟨row,c,d⟩:=h;refine⟨c.size,λk o a f => ?_⟩;refine(c.block k (Qkq a).1 λg => ?_).trans a;obtain⟨_,cur,hc⟩:=d k g.symm;rw[a] at hc;cases hc;cases f
theorem ai.addM{A:Nat}{w d:World}{s:St}{m:Hd}{v:Value}(h:ai A w s)(e:d.ownsRow A 63 4 v (s.ms.n+1) (ax s.ms.n s.ms.z++dg m))(l:pk A 63 w d):
  ∃k:Hs,v = .slice k.a k.n k.c/\ai A d (withMoves s k)/\k.n=s.ms.n+1/\(∀j,j<s.ms.n->k.z j=s.ms.z j)/\k.z s.ms.n=m:=by
 have g:ax s.ms.n s.ms.z++dg m=ax (s.ms.n+1) (λi=>if i=s.ms.n then m else s.ms.z i):=by
  rw[tx,if_pos rfl,my (z':=λi=>if i=s.ms.n then m else s.ms.z i) λi hi=>by rw[if_neg (by omega)]]
 have b:=e;rw[g] at b;obtain⟨k,rfl,ok,kn,f⟩:=cy.ofRow b nlr;refine⟨k,rfl,h.moreM l ok ?_,kn,λj o=>by rw[f];exact if_neg (by omega),by rw[f];exact if_pos rfl⟩;exact fo.ofOwns (a:=k.a) (n:=k.n) (c:=k.c) e nlr
theorem ju.keepM{A g n:Nat}{w a:World}{r:Rw}{f:Nat->Value}(h:ju A w r)(j:Blk w g 63 n f)(K:ie g w a):ju A a r:=by
 obtain⟨q,i,e,c,d,b⟩:=h;exact⟨q,i,e,c,d,K.blk b (Blk.ne2 b j (by decide))⟩
theorem cy.keepM{A g n:Nat}{t:TypeId}{w c:World}{s:Hs}{f:Nat->Value}(h:cy A t w s)(m:Blk w g 63 n f)(a:t≠63)(K:ie g w c):cy A t c s:=by
 obtain⟨e,o,k,i⟩:=h;refine⟨e,o,k,λj => ?_⟩;obtain⟨q,l,d,b⟩:=i j;exact⟨q,l,d,K.blk b (Blk.ne2 b m a)⟩
theorem j7.keepM{A g n:Nat}{w k:World}{s:Os}{f:Nat->Value}(h:j7 A w s)(d:Blk w g 63 n f)(K:ie g w k):j7 A k s:=by
 refine⟨h.le,h.cap,λo => ?_,λi hi => ?_,h.apart,?_⟩
 .obtain⟨q,a1,c,a⟩:=h.list o;exact⟨q,a1,c,K.blk a (Blk.ne2 a d (by decide))⟩
 .obtain⟨C,a1,c,a,l,j⟩:=h.lines i hi;exact⟨C,a1,c,a,l,K.blk j (Blk.ne2 j d (by decide))⟩
 refine h.room.same λq cur b=>K.2 q (Qkq b).1 λe => ?_;obtain⟨c2,m,_⟩:=d;rw[e,m] at b;cases b
theorem ai.keepM{A g n:Nat}{w d:World}{s:St}{h:Hs}{f:Nat->Value}(k:ai A w s)(b:Blk w g 63 n f)(K:ie g w d)(m:cy A 63 d h)(o:fo A d 63 4 h.a h.c):ai A d (Go.Proofs.YtbcacebifpagpagGreat.withMoves s h):=by
 refine⟨?_,λi hi=>(k.rows i hi).keepM b K,k.rapart,k.os.keepM b K,k.hs.keepM b (by decide) K,m,o,k.si.keepM b K,k.so.keepM b K,k.sf.keepM b K,k.aio,k.aif,k.aof,k.ari⟩;obtain⟨q,l,a1,p,j,e⟩:=k.on;exact⟨q,l,a1,p,j,K.blk e (Blk.ne2 e b (by decide))⟩
theorem J5(w:World)(g:TypeId)(b o n c:Nat)(p:0<n)(hc:∀j,j<n*4->(w.cell? ⟨b,o+j,none⟩).isSome=true)(h:∀j,j<n*4->w.frozen? ⟨b,o+j,none⟩=false):
  (Builtin.clear_ #[29] g #[.slice (some ⟨b,o,none⟩) n c]).run prog w = .ok (.tuple #[]) (w.setCells b o (List.replicate (n*4) (.int .i64 0))):=by
 have e:(Builtin.zeroCells (Value.agg #[.int .i64 0,.int .i64 0,.int .i64 0,.int .i64 0]).cells n).toList=List.replicate (n*4) (.int .i64 0):=by
  rw[show(Value.agg #[.int .i64 0,.int .i64 0,.int .i64 0,.int .i64 0]).cells=#[.int .i64 0,.int .i64 0,.int .i64 0,.int .i64 0] from rfl]
  apply List.ext_getElem
  .simp[Builtin.zeroCells]
  intro i l q;have d:i%4<4:=by omega
  simp[Builtin.zeroCells]
  generalize i%4=k at d
  match k,d with
  | 0,_=>rfl
  | 1,_=>rfl
  | 2,_=>rfl
  | 3,_=>rfl
 have a:=run_storeCells_cells (P:=prog) b o (List.replicate (n*4) (.int .i64 0)) 0 w (by simpa using hc) (by simpa using h) (by intro v f;rw[List.eq_of_mem_replicate f];rfl);simp only[Nat.add_zero] at a;obtain⟨m,rfl⟩:∃m,n=m+1:=⟨n-1,by omega⟩;simp only[Builtin.clear_];simp[e,a]
theorem C6:(prog.info? 63).map (λi=>(i.zero,i.size,i.bytes))=some (some (.agg #[.int .i64 0,.int .i64 0,.int .i64 0,.int .i64 0]),4,32):=by kernel_rfl
theorem Fm{g:Nat}{e:TypeId}{m:Nat}:∀(a:List Value) (o:Nat) (w:World),(∃cur,w.heap[g]?=some (.cells cur e (0,0))/\cur.size=m)->∃cur,(w.setCells g o a).heap[g]?=some (.cells cur e (0,0))/\cur.size=m
 | [],_,_,h=>h
 | v :: r,o,w,h=>by
  rw[World.setCells];refine Fm r (o+1) _ ?_;obtain⟨cur,b,c⟩:=h;exact⟨cur.setIfInBounds o v,by simp[World.setCell,Array.getElem?_modify,b],by simpa using c⟩
theorem vo(g q j:Nat):(⟨g,q,none⟩:Addr).add j=⟨g,q+j,none⟩:=by
 unfold Addr.add
 split<;>simp_all
theorem X9(A g n c k:Nat)(z:Nat->Hd)(w:World)(J:A<=g)(S:A<=w.heap.size)(hn:n<=c)(E:c<=maxLen)(hk:k<n)(cur:Array Value)(L:w.heap[g]?=some (.cells cur 63 (0,0)))(P:cur.size=c*4)(r:Blk w g 63 (n*4) (λj=>(ax n z).getD j default)):
  Calls prog 104 #[.slice (some ⟨g,0,none⟩) n c,.int .i64 (k:Int),.int .i64 ((k:Int)+1)] w λe b=>e = .returned (.slice (some ⟨g,0,none⟩) (n-1) c)/\Blk b g 63 ((n-1)*4) (λj=>(ax (n-1) (fp z k)).getD j default)/\(∃a,b.heap[g]?=some (.cells a 63 (0,0))/\a.size=c*4)/\Below A w b/\ie g w b:=by
 have y:=E;unfold maxLen at E;obtain⟨Y,hM,av,M,ay⟩:=info_parts C6;have G:=qa3 r L P;clear r L P;have k0:(0:Int)<=(k:Int):=by omega
 have k1:(k:Int)+1<=(n:Int):=by omega
 have k2:((k:Int)+1).toNat=k+1:=by omega
 have k3:((k:Int)==(k:Int)+1)=false:=beq_eq_false_iff_ne.2 (by omega);go_enter func104,ntmps104;go_wp2_with fail;have x:Hid (Below w.heap.size w w.drew/\w.drew.heap=w.heap):=⟨brf.drew,rfl⟩;refine i9 [(true,[0,1,2,3,4,5],some 6),(false,[7],none)] ?_;refine⟨λb=>∃p:Regrown,b=grow (redrawn w p.d) p.os,Qqx (brf.drew),λh=>(by cases h),?_⟩;simp only[dv,Qyq,Xqq,Qyx,Qyz,Xqz,Xqx];have B:Hid (∀K,K=c->w.drew.ownsRow A 63 4 (.slice (some ⟨g,0,none⟩) k K) k (ax k z)):=λK ae=>by
  subst ae;refine Np (w:=w.drew) (cur:=cur) J G.out.2.1 G.out.2.2 (by omega) y (ep _ _) λh => ?_;have r:=G.out.1.below x.out.1;refine(r.less (by omega)).congr λj f => ?_;rw[uu (by omega),uu (by omega)]
 have H:Hid (∀j u,(ax (n-(k+1)) (λj=>z (k+1+j)))[j]?=some u->w.drew.cell? ⟨g,(k+1)*4+j,none⟩=some u):=λj u f=>by
  have hl:j<(n-(k+1))*4:=by
   have:=(List.getElem?_eq_some_iff.1 f).1;rw[ep] at this;exact this
  have r:=G.out.1.below x.out.1;have h1:=r.cell (j:=(k+1)*4+j) (by omega);rw[h1,uu (by omega)];have X:(ax (n-(k+1)) (λj=>z (k+1+j))).getD j default=u:=by simp[List.getD,f]
  rw[<-X,uu hl];unfold hc;rw[show((k+1)*4+j)/4=k+1+j/4 by omega,show((k+1)*4+j)%4=j%4 by omega]
 have v:Hid (∀b,b.ownsRow A 63 4 (.slice (some ⟨g,0,none⟩) (n-1) c) (n-1) (ax k z++ax (n-(k+1)) (λj=>z (k+1+j)))->w.drew.grownBy b (some g)->
   (∀t,(Builtin.clear_ #[29] t #[.slice (some ⟨g,(n-1)*4,none⟩) 1 (c-(n-1))]).run prog b = .ok (.tuple #[]) (b.setCells g ((n-1)*4) (List.replicate (1*4) (.int .i64 0)))) /\
   ∀i,i=b.setCells g ((n-1)*4) (List.replicate (1*4) (.int .i64 0))->Blk i g 63 ((n-1)*4) (λj=>(ax (n-1) (fp z k)).getD j default)/\(∃a,i.heap[g]?=some (.cells a 63 (0,0))/\a.size=c*4)/\Below A w i/\ie g w i):=λb m T=>by
  obtain⟨_,⟨h,_⟩|⟨g',K,a,h,au,D,h1,X,V,h4⟩⟩:=m
  .cases h
  simp only[Value.slice.injEq,Qkx,Qkz,and_true,true_and] at h;obtain⟨rfl,rfl⟩:=h;have aw:(n-1)*4+4<=a.size:=by rw[V];omega
  have Q:Blk b g 63 a.size (λj=>a.getD j default):=⟨a,D,Nat.le_refl _,λj f=>by simp[Array.getD,f]⟩;have r:Blk b g 63 ((n-1)*4) (λj=>(ax (n-1) (fp z k)).getD j default):=by
   refine⟨a,D,by omega,λj f => ?_⟩;rw[tw n z k hk,<-h4];have e:(a.toList.take ((n-1)*4))[j]?=a[j]?:=by rw[List.getElem?_take,if_pos f];simp
   have e2:j<a.size:=by omega
   simp only[List.getD,e];simp[e2]
  have ac:ie g w b:=⟨by have:=T.size;exact this,λq hq ab=>T.block q hq (λe=>ab (by cases e;rfl))⟩;have ah:Below A w b:=(x.out.1.mono S).grown T S (λq e=>by cases e;exact J);refine⟨λt=>J5 b t g ((n-1)*4) 1 (c-(n-1)) (by omega) (λj f=>by rw[Q.cell (by omega)];rfl) (λj _=>Q.frozen _),λi e => ?_⟩;subst e;exact⟨Blk.setCells _ _ _ r nlr,Fm _ _ _ ⟨a,D,V⟩,x9 J _ _ _ ah,ac.cells _ _ _⟩
 clear J y x G;by_cases aa:c=k+1;rotate_left
 .repeat(go_big_quiet_step(fail))
  refine Qqz ?_
  generalize w.drew=U at *
  refine kq 6 rfl ?_
  (refine wpList_append_fits_any U rfl (.tmp 22) (.tmp 25) 29 rfl A 63 Y 4 underlying29 hM M g k c (ax k z) rfl (B.out c rfl) (some ⟨g,(k+1)*4,none⟩) (n-(k+1)) (c-(k+1)) (ax (n-(k+1)) (λj=>z (k+1+j))) rfl (ep _ _) (λe=>by cases e) (λad e j u f=>by cases e;rw[vo];exact H.out j u f) (ma _ _) (by omega) ?_)
  intro i m o;rw[show k+(n-(k+1))=n-1 by omega] at m ⊢;obtain⟨F,l⟩:=v.out i m o;have s:Hid _:=l;clear m o v B H l;simp only[Act.put,Qvq,Qwx,Qwz];refine(?_:wpList _ _ _ [] _ _);go_wp2_with fail;refine⟨λ_=>True,trivial,λ_ _=>trivial,?_⟩;simp only[dv,Qyq,Xqq,Qyx,Qyz,Xqz,Xqx]
  repeat(go_big_quiet_step(fail))
  refine Qqz ?_;refine NoPanic.normal ?_;have aj:¬c=n-1:=by omega
  have ai:(n-1)<=n:=by omega
  have W:n-(n-1)=1:=by omega
  go_wp2_with fail;go_ret;exact⟨rfl,s.out _ rfl⟩
 subst aa;obtain rfl:n=k+1:=by omega
 repeat(go_big_quiet_step(fail))
 refine Qqz ?_
 generalize w.drew=U at *
 refine kq 6 rfl ?_
 (refine wpList_append_fits_any U rfl (.tmp 22) (.tmp 25) 29 rfl A 63 Y 4 underlying29 hM M g k (k+1) (ax k z) rfl (B.out (k+1) rfl) (some ⟨g,0,none⟩) 0 0 [] rfl rfl (λe=>by cases e) (λad e j u f=>by cases f) (λu hu=>by cases hu) (by omega) ?_)
 intro i m o;rw[show k+0=k+1-1 by omega] at m ⊢;obtain⟨F,l⟩:=v.out i (by rw[show k+1-(k+1)=0 by omega];exact m) o;have s:Hid _:=l;have ar:∀t,(Builtin.clear_ #[29] t #[.slice (some ⟨g,k*4,none⟩) 1 1]).run prog i = .ok (.tuple #[]) (i.setCells g (k*4) (List.replicate (1*4) (.int .i64 0))):=λt=>by
  have h:=F t;rw[show k+1-1=k by omega,show k+1-k=1 by omega] at h;exact h
 clear F;clear m o v B H l;simp only[Act.put,Qvq,Qwx,Qwz];refine(?_:wpList _ _ _ [] _ _);go_wp2_with fail;refine⟨λ_=>True,trivial,λ_ _=>trivial,?_⟩;simp only[dv,Qyq,Xqq,Qyx,Qyz,Xqz,Xqx]
 repeat(go_big_quiet_step(fail))
 refine Qqz ?_;refine NoPanic.normal ?_;have aj:¬k+1=k+1-1:=by omega
 have ai:(k+1-1)<=k+1:=by omega
 have W:k+1-(k+1-1)=1:=by omega
 go_wp2_with fail;go_ret;exact⟨rfl,s.out _ rfl⟩
theorem X8(A:Nat)(s:St)(k:Nat)(w:World)(E:A<=w.heap.size)(i:ai A w s)(L:k<s.ms.n):
  Calls prog 104 #[.slice s.ms.a s.ms.n s.ms.c,.int .i64 (k:Int),.int .i64 ((k:Int)+1)] w λe j=>e = .returned (.slice s.ms.a (s.ms.n-1) s.ms.c)/\ai A j (withMoves s (Bv s.ms k))/\Below A w j/\(∀q t m g,t≠63->Blk w q t m g->Blk j q t m g):=by
 obtain⟨F,y,G,K⟩:=i.ms;obtain⟨g,d,l,o⟩:=K (by omega);rcases i.msr with Q|⟨P,cur,b,M,p,B⟩
 .omega
 rw[d] at b;simp only[Qkx,Qkz,and_true] at b;subst b;have J:=X9 A g s.ms.n s.ms.c k s.ms.z w l E F y L cur p B o;rw[d];refine J.mono ?_;rintro e S ⟨rfl,r,⟨h,u,v⟩,H,x⟩;refine⟨rfl,i.keepM o x ⟨by show s.ms.n-1<=s.ms.c;omega,y,G,λ_=>⟨g,d,l,r⟩⟩ (Or.inr ⟨g,h,d,l,u,v⟩),H,λq t m f' D f=>x.blk f (Blk.ne2 f o D)⟩
theorem Cj{A:Nat}{w:World}{e:TypeId}{size:Nat}{v:Value}{n:Nat}{b:List Value}(h:w.ownsRow A e size v n b){k:Nat}(a:v.ownBlock=some k):A<=k:=by
 obtain⟨_,⟨rfl,_⟩|⟨g,cap,cur,rfl,c,_⟩⟩:=h
 .cases a
 simp only[Value.ownBlock,Qkx] at a;omega
theorem ai.withM{A:Nat}{w:World}{s:St}{h:Hs}(k:ai A w s)(b:cy A 63 w h)(d:fo A w 63 4 h.a h.c):ai A w (withMoves s h):=
 ⟨k.on,k.rows,k.rapart,k.os,k.hs,b,d,k.si,k.so,k.sf,k.aio,k.aif,k.aof,k.ari⟩
theorem jb.flat{w:World}{n b o:Nat}{z:Nat->Hd}(h:jb w (some ⟨b,o,none⟩) n z){q m:Nat}(p:q+m<=n){j:Nat}{u:Value}(a:(ax m (λx=>z (q+x)))[j]?=some u):w.cell? ⟨b,o+q*4+j,none⟩=some u:=by
 have s:j<m*4:=by
  have:=(List.getElem?_eq_some_iff.1 a).1;rw[ep] at this;exact this
 obtain⟨i,c,rfl,hc⟩:∃i c,j=i*4+c/\c<4:=⟨j/4,j%4,by omega,by omega⟩;rw[vr m _ i c (by omega) hc] at a;obtain⟨r,t,e,_,k,f,l,g⟩:=h (q+i) (by omega);simp only[Qkx,Qkz,and_true] at e;obtain⟨rfl,rfl⟩:=e;have d:o+q*4+(i*4+c)=o+(q+i)*4+c:=by omega
 rw[d,<-a]
 match c,hc with
 | 0,_=>exact k
 | 1,_=>exact f
 | 2,_=>exact l
 | 3,_=>exact g
theorem ai.rowBlk{A:Nat}{w:World}{s:St}(h:ai A w s){b G:Nat}(c:b<s.on.n)(d:(s.on.r b).a=some ⟨G,0,none⟩):A<=G/\Blk w G 3 (s.on.r b).n (λj => .int .i64 ((s.on.r b).z j)):=by
 obtain⟨e,b1,b2,b3,b4,b5⟩:=h.rows b c;rw[d] at b1;simp only[Qkx,Qkz,and_true] at b1;subst b1;exact⟨b2,b5⟩
theorem de.setOn{A i:Nat}{c d:World}{cur:St}(h:de A i c cur d)(k:c.heap.size<=A){b G:Nat}(e:b<cur.on.n)(f:(cur.on.r b).a=some ⟨G,0,none⟩)(g:Nat)(v:Int):de A i c (Go.Proofs.YtbcacebifpagpagGreat.setOn cur b g v) (d.setCell ⟨G,g,none⟩ (.int .i64 v)):=by
 obtain⟨l,j⟩:=h.own.rowBlk e f;exact⟨h.own.setOn e f g v,h.box.other (a:=⟨G,g,none⟩) (Blk.ne2 h.box j (by decide)) _,h.bel.setCell (p:=⟨G,g,none⟩) (by show c.heap.size<=G;omega) _,by have:=h.le;simpa using this⟩
theorem de.moves{A b:Nat}{f i:World}{cur:St}(h:de A b f cur i)(l:f.heap.size<=A)(u:A<=b){e:World}{m:Hs}(r:ai A e (withMoves cur m))(k:Below A i e)(o:∀q t n g,t≠63->Blk i q t n g->Blk e q t n g):de A b f (withMoves cur m) (e.setCell ⟨b,3,none⟩ (.slice m.a m.n m.c)):=by
 have d:=o _ _ _ _ (by decide) h.box;refine⟨r.box d 3 _,(d.set 3 _).congr λj s => ?_,(h.bel.trans (k.mono l)).setCell (p:=⟨b,3,none⟩) (by show f.heap.size<=b;omega) _,by have:=k.size;have:=h.le;simp;omega⟩
 match j,s with
 | 0,_=>rfl
 | 1,_=>rfl
 | 2,_=>rfl
 | 3,_=>rfl
 | 4,_=>rfl
 | 5,_=>rfl
 | 6,_=>rfl
theorem de.more{A d:Nat}{g i e:World}{x:St}{m:Hd}{v:Value}(h:de A d g x i)(l:g.heap.size<=A)(t:A<=d)(o:e.ownsRow A 63 4 v (x.ms.n+1) (ax x.ms.n x.ms.z++dg m))(f:pk A 63 i e):
  ∃k:Hs,v = .slice k.a k.n k.c/\de A d g (withMoves x k) (e.setCell ⟨d,3,none⟩ (.slice k.a k.n k.c))/\k.n=x.ms.n+1/\(∀j,j<x.ms.n->k.z j=x.ms.z j)/\k.z x.ms.n=m/\Blk e d 31 7 (λj=>x.cells.getD j default):=by
 obtain⟨k,rfl,ok,kn,r,kl⟩:=h.own.addM o f;have b:=f.blk h.box (by decide);refine⟨k,rfl,⟨ok.box b 3 _,(b.set 3 _).congr λj q => ?_,(f.below h.bel l h.bel.size).setCell (p:=⟨d,3,none⟩) (by show g.heap.size<=d;omega) _,?_⟩,kn,r,kl,b⟩
 .match j,q with
  | 0,_=>rfl
  | 1,_=>rfl
  | 2,_=>rfl
  | 3,_=>rfl
  | 4,_=>rfl
  | 5,_=>rfl
  | 6,_=>rfl
 have s:=(f.below (Below.refl A i) nlr h.le).size;have:=h.le;simp;omega
theorem Z9(w:World)(Z:Hd)(e:TypeId):∀j u,(dg Z)[j]?=some u->(w.alloc (.cells #[.int .i64 Z.o,.int .i64 Z.l,.int .i64 Z.b,.int .i64 Z.n] e)).cell? ((⟨w.heap.size,0,none⟩:Addr).add j)=some u:=by
 intro j u a;rw[vo,Nat.zero_add];have K:=Blk.new w #[.int .i64 Z.o,.int .i64 Z.l,.int .i64 Z.b,.int .i64 Z.n] e;have c:j<4:=(List.getElem?_eq_some_iff.1 a).1;rw[K.cell (j:=j) c,<-a]
 match j,c with
 | 0,_=>rfl
 | 1,_=>rfl
 | 2,_=>rfl
 | 3,_=>rfl
attribute [local go_sem] Oper.semAt_some
theorem V9(F:Fence)(n:Nat)(h6:F.fn 149)(X:F.round=none)(hn:1<=n)(l S d j:Nat)(p:Pl)(f:Bool)(J Jx:List (yx p f)->World->Prop)
  (hY:∀pre x W,J pre W->pre.length<p.nb->YieldAt F (n-1) prog l #[.int .i64 (x.1:Int)] W λe a =>
   (e = .returned (.bool true)/\J (pre++[x]) a/\z9 j d W a)\/(e = .returned (.bool false)/\Jx (pre++[x]) a))
  (W:World) (hJ:AbidesFrom W.heap.size J) (H:j<=W.heap.size) (ai:W.cell? ⟨S,0,none⟩=some (.slice p.ab p.nb p.cb)) (V:W.cell? ⟨d,0,none⟩=some (.bool f)) (aj:p.nb<=p.cb) (L:p.cb<=maxLen)
  (hL:∀a,Below j W a->se a p.ab p.nb p.zb) (h0:J [] W) :
  CallsIn F n prog 149 #[.func (.yield l) #[] #[],.pointer (some ⟨S,0,none⟩),.pointer (some ⟨d,0,none⟩)] W λe a=>(∃v,e = .returned v) /\
   ((∃ys,ys=frX p f p.nb/\J ys a)\/(∃pre,pre <+: frX p f p.nb/\Jx pre a)):=by
 unfold maxLen at L;have Y:Hid (∀wr,Below j W wr->W.heap.size<=wr.heap.size):=λwr h=>h.size;have B:Hid (∀pre A o,J pre A->J pre (A.alloc o)):=λpre A o h=>hJ pre A (A.alloc o) none h (World.grownBy_alloc A o none) (λr e=>by cases e);refine callsIn_of_wp func149 rfl h6 ?_ X;simp only[ntmps149,List.size_toArray,List.length_cons,List.length_nil,Nat.reduceAdd,Nat.reduceSub,Array.replicate_succ,Array.replicate_zero,List.push_toArray,List.append_toArray,Xqx,Xqz]
 gi_wp2
 gi_loopw [9] (λi wr=>∃k:Nat,k<=p.nb/\i = .int .i64 k/\J (frX p f k) wr/\Below j W wr/\wr.cell? ⟨d,0,none⟩=some (.bool f)) (λi _=>p.nb-(intOf i).toNat)
 case atStart=>exact⟨0,Qxz _,rfl,h0,Below.refl _ _,V⟩
 obtain⟨k,hk,rfl,s,q,w⟩:=hrel;by_cases g:k<p.nb;rotate_left
 .gi_wp2
  go_end0
  have U:k=p.nb:=by omega
  subst U;exact⟨⟨_,rfl⟩,.inl ⟨_,rfl,s⟩⟩
 obtain⟨b,o,G,hb,z0,z1,z2,z3⟩:=hL _ q k g;have m1:(0:Int)<=(k:Int):=by omega
 have y:d<wr.heap.size:=World.block_lt_of_cell? wr _ w;have ak:=aaq p f k;rw[G];clear G;by_cases t:(p.zb k).front=f;rotate_left
 .have c:=B.out _ wr (.cells #[.bool (p.zb k).front,.int .i64 (p.zb k).room,.int .i64 (p.zb k).low,.int .i64 (p.zb k).high] 68) s;rw[<-Kf t] at c;have z:=q.alloc (Qzx H (Y.out wr q)) (.cells #[.bool (p.zb k).front,.int .i64 (p.zb k).room,.int .i64 (p.zb k).low,.int .i64 (p.zb k).high] 68);have D:=(((Below.refl wr.heap.size wr).alloc nlr (.cells #[.bool (p.zb k).front,.int .i64 (p.zb k).room,.int .i64 (p.zb k).low,.int .i64 (p.zb k).high] 68)).cell (p:=⟨d,0,none⟩) y).trans w;have K:=qa3 c z D;clear c z D
  gi_wp2
  refine⟨λ_ h=>(by cases h),?_⟩
  gi_wp2
  go_roundw
  case rel=>exact⟨k+1,by omega,by go_num,K.out.1,K.out.2.1,K.out.2.2⟩
  case measure=>simp[intOf];omega
 rw[t] at z0;have c:=B.out _ wr (.cells #[.bool f,.int .i64 (p.zb k).room,.int .i64 (p.zb k).low,.int .i64 (p.zb k).high] 68) s;obtain⟨fn,tmps,assign,body,hy,P⟩:=hY (frX p f k) ⟨k,g,t⟩ _ c (by omega)
 gi_wp2
 refine P.mono ?_;rintro e Q (⟨rfl,E,m⟩|⟨rfl,u⟩)
 .have T:Below j W Q:=(q.alloc (Qzx H (Y.out wr q)) _).trans m.1;have M:Q.cell? ⟨d,0,none⟩=some (.bool f):=m.2 _ ((((Below.refl wr.heap.size wr).alloc nlr _).cell (p:=⟨d,0,none⟩) y).trans w);rw[<-Ev ⟨g,t⟩] at E;clear m P
  gi_wp2
  go_roundw
  case rel=>exact⟨k+1,by omega,by go_num,E,T,M⟩
  case measure=>simp[intOf];omega
 rw[<-Ev ⟨g,t⟩] at u
 gi_wp2
 refine Xzq (results_none rfl _ _ _) rfl ?_;exact⟨⟨_,rfl⟩,.inr ⟨frX p f (k+1),Ul p f (by omega),u⟩⟩
theorem Jn(F:Fence)(n:Nat)(t:F.fn 149)(q:F.round=none)(s:1<=n)(b a c:Nat)(p:Pl)(f:Bool)(w:World)(j:b<w.heap.size)(m:a<w.heap.size)(g:c<=w.heap.size)
  (o:w.cell? ⟨b,0,none⟩=some (.slice p.ab p.nb p.cb)) (r:w.cell? ⟨a,0,none⟩=some (.bool f)) (k:p.nb<=p.cb) (i:p.cb<=maxLen) (v:∀e,Below c w e->se e p.ab p.nb p.zb) :
  SeqStopsK F n prog 149 #[.pointer (some ⟨b,0,none⟩),.pointer (some ⟨a,0,none⟩)] (λx:yx p f=>#[Value.int .i64 (x.1:Int)]) (z9 c a) (λys=>ys=frX p f p.nb) (λpre=>pre <+: frX p f p.nb) p.nb w:=λl J A W d y _ u z =>
 V9 F n t q s l b a c p f J A u W y (Qzx g d.size) ((d.cell (p:=⟨b,0,none⟩) j).trans o) ((d.cell (p:=⟨a,0,none⟩) m).trans r) k i (λe h=>v e ((d.mono g).trans h)) z
end Go.Proofs.YtbcacebifpagpagGreat
namespace Go.Proofs.YtbcacebifpagpagGreat
open _root_.Go.Proofs.Tryz
open Go Go.Sort Go.RowKit
def Ez(l:List Oper):Bool:=l.all λo=>match o.op with|.defer _=>false|_=>true
theorem Uy{l:List Oper}(h:Ez l=true){i:Nat}{o:Oper}(a:l.toArray[i]?=some o):∀c,o.op ≠ .defer c:=by
 intro c e;have b:o∈l:=by
  rw[Qvz] at a;exact List.mem_of_getElem? a
 have:=List.all_eq_true.1 h o b;rw[e] at this;cases this
section
variable {F:Fence} {n:Nat} {P:Program} {C:World->Prop} {md:Region.Mode}
theorem N4{o:Oper}{a:Act}{K:Act->Prop}{k:Act->World->Prop}{p:Exit->Act->World->Prop}{w:World}(l:∀c,o.op ≠ .defer c)(g:C w)(h:∀a w',C w'->K a->k a w')
  (s:o.askedIn F P a C) (q:o.quietIn F n P a C K):o.wpIn F n P a w k p:=by
 obtain⟨v,m,j⟩:=q;have b:=m w g;unfold Oper.quietAtIn at b;unfold Oper.wpIn;refine⟨s w g,?_⟩;rw[Oper.semAt_plain F _ _ l]
 generalize (execOp a.eval o).run P w=r at *
 cases r with
 | ok x w' =>
  cases x<;>simp only[Oper.quietUponIn] at b<;>simp only[Oper.uponIn]
  case value u =>
   obtain⟨d,i⟩:=b;rw[d,i];exact h _ _ g j
  case skip =>
   obtain⟨d,i⟩:=b;rw[d,<-i];exact h _ _ g j
  case enter f args =>
   obtain⟨d,hd,hc⟩:=b;rw[d];exact⟨hd,hc.mono λe w'' ⟨he,hw''⟩=>by subst he;exact h _ _ hw'' j⟩
 | halt x w'=>simp only[Oper.quietUponIn] at b
variable {l:List Oper}
theorem Kx{i:Nat}{a:Act}{K:Act->Prop}{g:Act->World->Prop}{k:Exit->Act->World->Prop}{w:World}(f:Ez l=true)(d:C w)(h:∀a w',C w'->K a->g a w')
  (b:qOpIn F n P l.toArray C i K a):wpOpIn F n P l.toArray k i g a w:=by
 unfold qOpIn at b;unfold wpOpIn
 split
 .rename_i c;simp only[c] at b;exact h _ _ d b
 rename_i o c;simp only[c] at b;obtain⟨j,b⟩:=b
 split
 .rename_i e;simp only[e,if_true] at b;exact N4 (Uy f c) d h j b
 rename_i e;simp only[e] at b;exact⟨j w d,h _ _ d b⟩
theorem B0{Q:Act->Prop}{e:Exit->Act->World->Prop}(c:Ez l=true)(d:∀a w,C w->Q a->e .normal a w):∀(fuel:Nat) (b:Array Bool) (a:Act) (w:World),C w ->
  wpAnyQIn F n P md l.toArray C Q fuel b a->wpAnyIn F n P md l.toArray e fuel b a w
 | 0,_,_,_,hw,h=>⟨h.1,d _ _ hw h.2⟩
 | fuel+1,_,_,_,hw,h=>⟨λj=>d _ _ hw (h.1 j),λi hi=>Kx c hw (λk g f=>B0 c d fuel _ k g f) (h.2 i hi)⟩
theorem Iz{id:Nat}{Q:Exit->Act->World->Prop}{a:Act}{w:World}(e:Ez l=true)(i:P.follows .mixedOrders=true)(c:Region.lexB .any l.toArray=true)(g:C { w with drawn:=w.drawn+1 })
  (h:wpQuietIn F n P l.toArray C (λd=>∀b,C b->Q .normal d b) l a):(Code.region id l.toArray true).wpIn F n P Q a w:=by
 simp only[Region.lexB,Xxx] at c;refine wpIn_region_any i (B0 (Q:=λd=>∀b,C b->Q .normal d b) e (λ_ b f h=>h b f) _ _ _ _ g ?_);have:=wpAnyQIn_lex (F:=F) (n:=n) (C:=C) (md := .any) c.1 l 0 (Array.replicate l.toArray.size false) a (by simp) (by simpa using c.2) h
 simpa using this
theorem ws{id:Nat}{Q:Exit->Act->World->Prop}{a:Act}{w:World}(c:Ez l=true)(g:P.follows .mixedOrders=true)(e:Region.lexB .any l.toArray=true)
  (h:wpQuietIn F n P l.toArray (λb=>∃p:Regrown,b=grow (redrawn w p.d) p.os) (λf=>∀b,(∃p:Regrown,b=grow (redrawn w p.d) p.os)->Q .normal f b) l a):(Code.region id l.toArray true).wpIn F n P Q a w :=
 Iz (C:=λb=>∃p:Regrown,b=grow (redrawn w p.d) p.os) c g e ⟨⟨w.drawn+1,#[]⟩,by rw[grow_empty];rfl⟩ h
end
end Go.Proofs.YtbcacebifpagpagGreat
namespace Go.Proofs.YtbcacebifpagpagGreat
open _root_.Go.Proofs.Tryz
open Go.RowKit Go.Shelf Go.Sort
theorem P0(p:Pl)(s:St)(b g:Nat)(w:World)(j:p.At w)(hs:s.At w)(h:ag p s=0)(d:b<p.nb)(f:g<p.ns):
  Calls prog 105 #[.agg #[.slice p.ab p.nb p.cb,.slice p.sa p.ns p.cs],.agg #[.slice s.on.a s.on.n s.on.c,.slice s.os.a s.os.n s.os.c,.slice s.hs.a s.hs.n s.hs.c,.slice s.ms.a s.ms.n s.ms.c,.slice s.si.a s.si.n s.si.c,.slice s.so.a s.so.n s.so.c,.slice s.sf.a s.sf.n s.sf.c],.int .i64 (b:Int),.int .i64 (g:Int)] w λe i=>e = .returned (.tuple #[.int .i64 (ar s b g),.int .i64 0])/\Below w.heap.size w i:=by
 have k:=G9 p s b g w j hs;rw[(Dm h d f).1,(Dm h d f).2] at k;exact k
theorem Q5{p:Pl}{s:St}{b:Nat}(h:ag p s=0)(c:b<p.nb):sp p s b=0/\z5 p s b=fw p s b:=by
 have f:=(ed h).fm;have a:ui p s.on b=0:=by unfold ui;rw[f.sh0];simp only[beq_self_eq_true,if_true];rw[bq (by have:=f.sh.n;omega)];rfl
 have e:sp p s b=0:=by unfold sp;rw[if_pos h,a]
 exact⟨e,by unfold z5;rw[if_pos e];rfl⟩
theorem R3(p:Pl)(s:St)(b:Nat)(w:World)(d:p.At w)(hs:s.At w)(h:ag p s=0)(a:b<p.nb):
  Calls prog 88 #[p.val,s.val,.int .i64 (b:Int)] w λe c=>e = .returned (.tuple #[.int .i64 (fw p s b),.int .i64 0])/\Below w.heap.size w c:=by
 have k:=P4 p s b w d hs;rw[(Q5 h a).1,(Q5 h a).2] at k;exact k
theorem O6{p:Pl}{s:St}(F:cv p s){b g:Nat}(a:b<p.nb)(c:g<p.ns):0<=dw s b g/\dw s b g<=1800:=by
 have d:=F.sh.num b (by rw[F.sh.n];exact a) g c;have f:=lj (s:=s) (b:=b) (g:=g) F.moveN;have e:=F.ms8;unfold dw;omega
theorem Q4{p:Pl}{s:St}(F:cv p s){b:Nat}(d:b<p.nb): -30000<=fw p s b/\fw p s b<=1000:=by
 have c:b<s.on.n:=by rw[F.sh.n];exact d
 have g:=wn (z:=(s.on.r b).z) (zs:=p.zs) (n:=p.ns) (λj e=>⟨F.sh.num b c j e,F.sh.pl.sizes j e⟩) p.ns nlr;have i:=D1 F b s.ms.n nlr;have f:=F.ms8;have h:=F.sh.pl.ns3;have a:=F.sh.pl.bins b d;rw[Dn] at a;simp only[Xxq,Bool.not_eq_false'] at a;have:=aq a.1.1;unfold fw;omega
theorem Fw{p:Pl}(r:P7 p){b:Nat}(c:b<p.nb):(0<=(p.zb b).high/\(p.zb b).high<=200)/\0<=(p.zb b).low/\(p.zb b).low<=200:=by
 have a:=r.bins b c;rw[Dn] at a;simp only[Xxq,Bool.not_eq_false'] at a;have:=aq a.1.2;have:=aq a.2;omega
theorem N8{p:Pl}{s:St}(r:au p s){b g:Nat}(a:b<p.nb)(c:g<p.ns):0<=ar s b g/\ar s b g<=200:=by
 have F:=r.fm;have d:=(km (r.goods g c)).2 b a;have e:=F.sh.num b (by rw[F.sh.n];exact a) g c;have h:=mr (s:=s) (b:=b) (g:=g) F.holdN;have f:=jq (s:=s) (b:=b) (g:=g) F.moveN;refine⟨d,?_⟩;unfold ar;omega
theorem Tx(p:Pl)(s:St)(g f b:Nat)(n:Int)(w:World)(G:p.At w)(hs:s.At w)(r:au p s)(E:g<p.ns)(hf:f<p.nb)(H:b<p.nb):
  Calls prog 103 #[p.val,s.val,.agg #[.int .i64 g,.int .i64 f,.int .i64 b,.int .i64 n]] w λe w'=>e = .returned (.int .i64 (o5 p s b g f))/\Below w.heap.size w w':=by
 obtain⟨t,hW,D,X0,K0⟩:∃W,(((w.alloc (.cells #[.slice p.ab p.nb p.cb,.slice p.sa p.ns p.cs] 25)).alloc (.cells s.cells 31)).alloc (.cells #[.int .i64 g,.int .i64 f,.int .i64 b,.int .i64 n] 63))=W/\Below w.heap.size w W/\lq W w.heap.size (w.heap.size+1) p s/\Blk W (w.heap.size+1+1) 63 4 (λj=>(#[.int .i64 g,.int .i64 f,.int .i64 b,.int .i64 n]:Array Value).getD j default):=
  ⟨_,rfl,(js _ _ _).alloc (by simp;omega) _,(nk w p s _ _).below (brf.alloc nlr _),Blk.mk' (cur:=#[.int .i64 g,.int .i64 f,.int .i64 b,.int .i64 n]) (by simp) rfl⟩
 have u:Hid (∀i,Below t.heap.size t i->lq i w.heap.size (w.heap.size+1) p s/\p.At i/\s.At i/\Below w.heap.size w i/\Blk i (w.heap.size+1+1) 63 4 (λj=>(#[.int .i64 g,.int .i64 f,.int .i64 b,.int .i64 n]:Array Value).getD j default)):=λi h=>⟨X0.below h,(G.below D).below h,(hs.below D).below h,D.trans (h.mono D.size),K0.below h⟩;have HW:Hid (((w.alloc (.cells #[.slice p.ab p.nb p.cb,.slice p.sa p.ns p.cs] 25)).alloc (.cells #[.slice s.on.a s.on.n s.on.c,.slice s.os.a s.os.n s.os.c,.slice s.hs.a s.hs.n s.hs.c,.slice s.ms.a s.ms.n s.ms.c,.slice s.si.a s.si.n s.si.c,.slice s.so.a s.so.n s.so.c,.slice s.sf.a s.sf.n s.sf.c] 31)).alloc (.cells #[.int .i64 g,.int .i64 f,.int .i64 b,.int .i64 n] 63)=t):=hW;have leb:=G.leb;have capb:=G.capb;have les:=G.les;have caps:=G.caps;unfold maxLen at capb caps;have y:=hid r;have g0:(0:Int)<=(g:Int):=by omega
 have b0:(0:Int)<=(b:Int):=by omega
 have g1:(g:Int)<(p.ns:Int):=by omega
 have b1:(b:Int)<(p.nb:Int):=by omega
 clear hW X0 G hs r;unfold Pl.val St.val;go_enter func103,ntmps103;go_wp2_with fail;rw[HW.out];clear HW;have X:Below t.heap.size t t:=Below.refl _ _;obtain⟨⟨⟨K,v,B⟩,J,A,c1,c2,c3,c4,c5,c6⟩,l,o,q,d⟩:=u.out t X;obtain⟨bb,ob,Y,ai,z0,z1,z2,z3⟩:=l.bins b H;have P:t.cell? ⟨w.heap.size+1+1,0,none⟩=some (.int .i64 g):=d.k 0;have Q:t.cell? ⟨w.heap.size+1+1,2,none⟩=some (.int .i64 b):=d.k 2;have L:=d.lt;rw[Y] at v;have T:Hid (∀i,s.At i->Calls prog 89 #[.agg #[.slice s.on.a s.on.n s.on.c,.slice s.os.a s.os.n s.os.c,.slice s.hs.a s.hs.n s.hs.c,.slice s.ms.a s.ms.n s.ms.c,.slice s.si.a s.si.n s.si.c,.slice s.so.a s.so.n s.so.c,.slice s.sf.a s.sf.n s.sf.c],.int .i64 b,.int .i64 g] i λe w'=>e = .returned (.int .i64 (dw s b g))/\Below i.heap.size i w'):=λi h=>Ha p s b g i h y.out.fm H E;have S:=hid o;have hi:=Fw y.out.fm.sh.pl H;have ly:=O6 y.out.fm H E;have HN:Hid (o5 p s b g f=min (min ((p.zb b).high-dw s b g) (ar s f g)) ((fw p s b).tdiv (p.zs g))):=rfl;have av:=N8 y.out hf E;have fr:=Q4 y.out.fm H;have sz:=y.out.fm.sh.pl.sizes g E;have ac:=Qqq v;have an:=Qqq z3;have ak:=Qqq P;have ay:=Qqq Q;have al:=Qqq A;have ae:=Qqq c1;have ax:=Qqq c2;have am:=Qqq c3;have ag:=Qqq c4;have ad:=Qqq c5;have ah:=Qqq c6
 generalize dw s b g=LY at *
 generalize (p.zb b).high=HI at *
 clear Y l o q d v B A c1 c2 c3 c4 c5 c6 z0 z1 z2 z3 P Q X;refine Qxq (by kernel_rfl) (by kernel_rfl) ?_
 repeat(go_big_quiet_step((go_at_call 89;exact Xxz (T.out _ (S.out.below (Qxx _ _ _))))))
 refine Qqz ?_;intro F U;have m:=af U;clear ac an ak ay al ae ax am ag ad ah T S U K J L ai;obtain⟨⟨⟨K,v,B⟩,J,A,c1,c2,c3,c4,c5,c6⟩,l,o,q,d⟩:=u.out F m;have P:F.cell? ⟨w.heap.size+1+1,0,none⟩=some (.int .i64 g):=d.k 0;have m1:F.cell? ⟨w.heap.size+1+1,1,none⟩=some (.int .i64 f):=d.k 1;have L:=d.lt;clear l o q d;go_wp2_with fail;refine Calls.mono (P0 p s f g F (u.out F m).2.1 (u.out F m).2.2.1 (j9 y.out) hf E) ?_;rintro e M ⟨rfl,x⟩;have m:=m.trans (x.mono m.size);clear K v B J A c1 c2 c3 c4 c5 c6 P m1 L x
 generalize ar s f g=AV at *
 obtain⟨⟨⟨K,v,B⟩,J,A,c1,c2,c3,c4,c5,c6⟩,l,o,q,d⟩:=u.out M m;have Q:M.cell? ⟨w.heap.size+1+1,2,none⟩=some (.int .i64 b):=d.k 2;have L:=d.lt;clear l o q d;go_wp2_with fail;refine Calls.mono (R3 p s b M (u.out M m).2.1 (u.out M m).2.2.1 (j9 y.out) H) ?_;rintro e w3 ⟨rfl,x⟩;have m:=m.trans (x.mono m.size);clear K v B J A c1 c2 c3 c4 c5 c6 Q L x
 generalize fw p s b=FR at *
 obtain⟨⟨⟨K,v,B⟩,J,A,c1,c2,c3,c4,c5,c6⟩,l,o,q,d⟩:=u.out w3 m;have P:w3.cell? ⟨w.heap.size+1+1,0,none⟩=some (.int .i64 g):=d.k 0;have L:=d.lt;obtain⟨bs,os,V,bc,y0⟩:=l.sizes g E;rw[V] at B;clear l o d V
 generalize p.zs g=ZS at *
 by_cases q1:AV<HI-LY
 all_goals(
  go_wp2_with fail
  all_goals(
   go_ret;refine⟨?_,q⟩;rw[HN.out]
   generalize FR.tdiv ZS=QQ at *
   refine congrArg (λz=>Ending.returned (Value.int .i64 z)) ?_;omega))
attribute [local go_sem] Oper.semAt_some
def Vz(P:Prop):Prop:=P
theorem Rf{P:Prop}(h:Vz P):P:=h
theorem Iu{P:Prop}(h:P):Vz P:=h
theorem Wy{F:Fence}{n:Nat}{P:Program}{fn:Func}{R:Ending->World->Prop}{a:Act}{w:World}{v:Value}(c:(results fn a.tmps).run P w = .ok v w)(hd:a.defers=[])(b:R (.returned v) w):Exit.noGoto (bodyPostM F n P fn R) .ret a w:=by
 show LeavesInM F n P fn a.tmps R a.defers .returning w;rw[hd];exact⟨v,c,b⟩
theorem Ia{F:Fence}{n:Nat}{P:Program}{fn:Func}{R:Ending->World->Prop}{a:Act}{w:World}{v:Value}{D:Nat}(d:w.heap[D]?=some (.deferred (some [])))(c:(results fn a.tmps).run P (w.putObj D (.deferred none)) = .ok v (w.putObj D (.deferred none)))(hd:a.defers=[{ target := .collected D,args:=#[] }])(b:R (.returned v) (w.putObj D (.deferred none))):Exit.noGoto (bodyPostM F n P fn R) .ret a w:=by
 show LeavesInM F n P fn a.tmps R a.defers .returning w;rw[hd];exact⟨by simp,.inl ⟨_,_,rfl,run_takeDeferred d,⟨v,c,b⟩⟩⟩
theorem de.ck{A d M:Nat}{c X Y:World}{x:St}{row:Option Nat}(h:de A d c x X)(a:X.grownBy Y row)(b:∀r,row=some r->M<=r/\∃o:Obj,X.heap[r]?=some o/\o.isCells=false)(f:c.heap.size<=M):de A d c x Y :=
 ⟨h.own.ck (ji.of a λr e=>(b r e).2),h.box.ck (ji.of a λr e=>(b r e).2),h.bel.grown a h.bel.size (λk e=>Qzx f (b k e).1),Qzx h.le a.size⟩
theorem ti{X Y:World}(h:Below X.heap.size X Y):KeepsOthers X Y:=⟨h.size,λk o a _=>(h.block k (Qkq a).1).trans a⟩
theorem Jd{c B:Nat}{X Y:World}{v:Value}{e:TypeId}(h:Below c X Y)(d:Blk X B e 1 (λ_=>v))(f:Blk Y B e 1 (λ_=>v)):z9 c B X Y:=⟨h,λu b=>by
 have a:=d.k 0;rw[a] at b;cases b;exact f.k 0⟩
def tv(p:Pl)(A B7 BF:Nat)(W0:World)(y:St)(W:World):Prop:=(∃x:St,ae x y/\de A B7 W0 x W)/\Blk W BF 4 1 (λ_ => .bool true)
theorem tv.ck{p:Pl}{A b d M:Nat}{a X Y:World}{y:St}{row:Option Nat}(h:tv p A b d a y X)(f:X.grownBy Y row)(c:∀r,row=some r->M<=r/\∃o:Obj,X.heap[r]?=some o/\o.isCells=false)(j:a.heap.size<=M):tv p A b d a y Y:=by
 obtain⟨⟨x,g,i⟩,k⟩:=h;exact⟨⟨x,g,i.ck f c j⟩,k.ck (ji.of f λr e=>(c r e).2)⟩
theorem tv.below{p:Pl}{A d b:Nat}{c X Y:World}{y:St}(h:tv p A d b c y X)(a:Below X.heap.size X Y):tv p A d b c y Y:=by
 obtain⟨⟨x,f,g⟩,e⟩:=h;exact⟨⟨x,f,g.below a⟩,e.below a⟩
def Cc(p:Pl)(A B7:Nat)(W0:World)(c:Code)(y:St)(W:World):Prop:=c = .exit 0/\8<=y.ms.n/\∃x:St,ae x y/\de A B7 W0 x W
theorem Cc.ck{p:Pl}{A b M:Nat}{a X Y:World}{c:Code}{y:St}{row:Option Nat}(h:Cc p A b a c y X)(k:X.grownBy Y row)(i:∀r,row=some r->M<=r/\∃o:Obj,X.heap[r]?=some o/\o.isCells=false)(g:a.heap.size<=M):Cc p A b a c y Y:=by
 obtain⟨j,d,x,e,f⟩:=h;exact⟨j,d,x,e,f.ck k i g⟩
theorem Pe{w:World}{b q:Nat}(h:q≠b)(e f c g d a i:Value):(set7 w b e f c g d a i).heap[q]?=w.heap[q]?:=by
 unfold set7;rw[Below.heap_setCell _ ⟨b,6,none⟩ _ q h,Below.heap_setCell _ ⟨b,5,none⟩ _ q h,Below.heap_setCell _ ⟨b,4,none⟩ _ q h,Below.heap_setCell _ ⟨b,3,none⟩ _ q h,Below.heap_setCell _ ⟨b,2,none⟩ _ q h,Below.heap_setCell _ ⟨b,1,none⟩ _ q h,Below.heap_setCell _ ⟨b,0,none⟩ _ q h]
theorem Yd(p:Pl)(s:St)(w:World)(hp:p.At w)(hs:s.At w):
  Calls prog 46 #[p.val,s.val] w λe w'=>∃x:St,e = .returned (.tuple #[x.val,.int .i64 (ag p s)])/\x.At w'/\du (ag p s) (yp p s) x/\(ag p s=0->ai w.heap.size w' x)/\Below w.heap.size w w':=by
 obtain⟨o,hW,ht,X0,Z0⟩:=Ab w p s;have HC:=yu hp hs ht X0 Z0;have HW:=hid hW;have leb:=hp.leb;have bu:=hp.capb;have les:=hp.les;have fc:=hp.caps;have capb:=bu;have caps:=fc;have i3:=Z0.lt;unfold maxLen at capb caps;clear hW X0 Z0 hp hs;unfold Pl.val St.val;refine(callsIn_wide (n:=9)).1 ?_;refine callsIn_of_wp_marks func46 rfl trivial ?_ rfl;simp only[ntmps46,List.size_toArray,List.length_cons,List.length_nil,Nat.reduceAdd,Nat.reduceSub,Array.replicate_succ,Array.replicate_zero,List.push_toArray,List.append_toArray,Xqx,Xqz]
 gi_wp2_with fail
 rw[HW.out];refine wpIn_wide.2 (wp_scope_straight ((wpIn_wide (n:=9)).1 ?_));obtain⟨⟨⟨l1,d0,d1⟩,l2,c0,c1,c2,c3,c4,c5,c6⟩,-,-,-,-⟩:=HC.out o brf
 gi_wp2_with(refine⟨trivial,?_⟩;(first|gi_at_call 16|gi_at_call 90|gi_at_call 102|gi_at_call 89|gi_at_call 103);refine Rf ?_)
 clear l1 d0 d1 l2 c0 c1 c2 c3 c4 c5 c6;refine Iu ?_;obtain⟨X,av,a6,ac,hz⟩:=HC.out o brf;refine(callsIn_wide.2 (lm p s o av a6)).mono ?_;rintro e L ⟨rfl,hB⟩;clear X av a6 ac hz HW;obtain⟨⟨⟨l1,d0,d1⟩,l2,c0,c1,c2,c3,c4,c5,c6⟩,av,a6,ac,hz⟩:=HC.out L hB;by_cases h0:ag p s=0;rotate_left
 .have bh:=hid h0;have g0:(ag p s !=0)=true:=by simpa using h0
  clear h0 av a6;obtain⟨zl,fo,f5,gp,zc1,fp,zc2,dn,zc3,fj,zc4,gk,zc5,fs,fw⟩:=z7 hz
  gi_wp2_with fail
  have KZ:=n7b hz;have ar:=n7w (b:=w.heap.size+2) ac (by omega);unfold set7 at KZ ar;obtain⟨ca,cg,ce,b7,b9,ch,cf⟩:=cn KZ;refine Wy (v := .tuple #[l8.val,.int .i64 (ag p s)]) (by simp[results,results46,go_sem,l8,St.val,ca,cg,ce,b7,b9,ch,cf]) rfl ?_;exact⟨l8,rfl,vy _,⟨λh=>absurd h (bh.out),λ_=>⟨rfl,rfl,rfl,rfl,rfl,rfl,rfl⟩⟩,λh=>absurd h (bh.out),ar⟩
 have HR:Hid (au p s):=ed h0;have H0:=hid h0;have f2:Hid (Calls prog 90 #[s.val] L λe w'=>∃s':St,e = .returned s'.val/\ae s' s/\ai L.heap.size w' s'/\Below L.heap.size L w'):=nd p s L a6 HR.out.fm;rw[h0];clear h0 av a6 ac hz
 gi_wp2_with(refine⟨trivial,?_⟩;(first|gi_at_call 16|gi_at_call 90|gi_at_call 102|gi_at_call 89|gi_at_call 103);refine Rf ?_)
 refine Iu ?_;refine(callsIn_wide.2 f2.out).mono ?_;rintro e w4 ⟨i,rfl,db,d7,dk⟩;clear f2 l1 d0 d1 l2 c0 c1 c2 c3 c4 c5 c6;obtain⟨E,fy,cq,K5⟩:=ab7 w4 i;have ec:=hid fy;have cv:=dk.trans (cq.mono dk.size);have A2:o.heap.size<=L.heap.size:=hB.size;have A3:L.heap.size<=w4.heap.size:=dk.size;have c9:Hid (de L.heap.size w4.heap.size o i E):=⟨ai.below d7 cq,K5,hB.trans (cv.mono hB.size),by have:=cv.size;omega⟩;have h7:=hid db;obtain⟨⟨⟨l1,d0,d1⟩,l2,c0,c1,c2,c3,c4,c5,c6⟩,av,a6,ac,hz⟩:=HC.out E c9.out.bel;clear fy d7 K5 dk cq cv db hB av a6 ac hz l2 c0 c1 c2 c3 c4 c5 c6;rw[<-ec.out] at l1 d0 d1;simp only[St.val]
 gi_wp2_with fail
 refine wpIn_label ?_;rw[ec.out];rw[ec.out] at l1 d0 d1
 gi_wp2_with(refine⟨trivial,?_⟩;(first|gi_at_call 16|gi_at_call 90|gi_at_call 102|gi_at_call 89|gi_at_call 103);refine Rf ?_)
 refine Iu ?_;clear l1 d0 d1;refine(Dp Fence.wide _ trivial rfl p true E).mono ?_;rintro e w' ⟨rfl,rfl⟩
 gi_wp2_with fail
 generalize hB7:w4.heap.size=P at *
 have jg:P<E.heap.size:=c9.out.box.lt;obtain⟨W6,gq,s6,fr,kF,cP⟩:∃W,(E.alloc (.cells #[.slice p.ab p.nb p.cb,.slice p.sa p.ns p.cs] 25)).alloc (.cells #[.bool true] 4)=W/\W.heap.size=E.heap.size+2/\Below E.heap.size E W/\Blk W (E.heap.size+1) 4 1 (λ_ => .bool true)/\W.cell? ⟨E.heap.size,0,none⟩=some (.slice p.ab p.nb p.cb):=
  ⟨_,rfl,by simp,(brf.alloc nlr _).alloc (by simp) _,(Blk.mk' (cur:=#[.bool true]) (by simp) rfl).congr (λj hj=>by match j,hj with|0,_=>rfl),((Blk.new E #[.slice p.ab p.nb p.cb,.slice p.sa p.ns p.cs] 25).alloc (.cells #[.bool true] 4)).cell (j:=0) (by simp)⟩
 rw[gq];have eq:=hid (c9.out.below fr);have bw:o.heap.size<=W6.heap.size:=eq.out.bel.size;have jd:o.heap.size<=E.heap.size:=c9.out.bel.size;have h9:Hid (∀d,Below o.heap.size W6 d->se d p.ab p.nb p.zb):=λd h=>(HC.out d (eq.out.bel.trans h)).2.1.bins;have hh:Hid (tv p L.heap.size P (E.heap.size+1) o (mf p [] s) W6):=⟨⟨i,h7.out,eq.out⟩,kF⟩;clear gq fr hB7;have cF:=kF.k 0;refine wpIn_rangeFunc_ownH rfl (by decide) (gf:=149) (lb:=#[.pointer (some ⟨E.heap.size,0,none⟩),.pointer (some ⟨E.heap.size+1,0,none⟩)]) rfl trivial (enters_of func149 (by kernel_rfl) rfl)
  (Jn Fence.wide _ trivial rfl (by decide) E.heap.size (E.heap.size+1) o.heap.size p true W6 (by omega) (by omega) bw cP cF leb bu h9.out) Fy (Fx bw (by omega)) brf (λ_=>rfl)
  (λpre W=>tv p L.heap.size P (E.heap.size+1) o (mf p pre s) W)
  (λc pre W=>Cc p L.heap.size P o c (mf p pre s) W)
  (λpre X Y row hs hg hr=>hs.ck hg hr bw)
  (λc pre X Y row hs hg hr=>hs.ck hg hr bw)
  hh.out
  (λb a' W=>∃Bx,Blk W Bx 3 1 (λ_ => .int .i64 (b.1:Int))/\a'={ tmps:=#[.agg #[.slice p.ab p.nb p.cb,.slice p.sa p.ns p.cs],.agg #[.slice s.on.a s.on.n s.on.c,.slice s.os.a s.os.n s.os.c,.slice s.hs.a s.hs.n s.hs.c,.slice s.ms.a s.ms.n s.ms.c,.slice s.si.a s.si.n s.si.c,.slice s.so.a s.so.n s.so.c,.slice s.sf.a s.sf.n s.sf.c],.pointer (some ⟨w.heap.size,0,none⟩),.pointer (some ⟨w.heap.size+1,0,none⟩),.pointer (some ⟨w.heap.size+1+1,0,none⟩),.int .i64 0,.int .i64 0,.pointer (some ⟨P,0,none⟩),.pointer (some ⟨Bx,0,none⟩),undef,undef,undef,.agg #[.slice p.ab p.nb p.cb,.slice p.sa p.ns p.cs],.agg #[.slice s.on.a s.on.n s.on.c,.slice s.os.a s.os.n s.os.c,.slice s.hs.a s.hs.n s.hs.c,.slice s.ms.a s.ms.n s.ms.c,.slice s.si.a s.si.n s.si.c,.slice s.so.a s.so.n s.so.c,.slice s.sf.a s.sf.n s.sf.c],.int .i64 0,.int .i64 0,.bool false,undef,undef,.agg #[.slice s.on.a s.on.n s.on.c,.slice s.os.a s.os.n s.os.c,.slice s.hs.a s.hs.n s.hs.c,.slice s.ms.a s.ms.n s.ms.c,.slice s.si.a s.si.n s.si.c,.slice s.so.a s.so.n s.so.c,.slice s.sf.a s.sf.n s.sf.c],.agg #[.slice i.on.a i.on.n i.on.c,.slice i.os.a i.os.n i.os.c,.slice i.hs.a i.hs.n i.hs.c,.slice i.ms.a i.ms.n i.ms.c,.slice i.si.a i.si.n i.si.c,.slice i.so.a i.so.n i.so.c,.slice i.sf.a i.sf.n i.sf.c],.agg #[.slice p.ab p.nb p.cb,.slice p.sa p.ns p.cs],.func (.func 149) #[] #[.pointer (some ⟨E.heap.size,0,none⟩),.pointer (some ⟨E.heap.size+1,0,none⟩)],.int .i64 (b.1:Int),undef,undef,undef,undef,undef,undef,undef,undef,undef,undef,undef,undef,undef,undef,undef,undef,undef,undef,undef,undef,undef,undef,undef,undef,undef,undef,undef,undef,undef,undef,undef,undef,undef,undef,undef,undef,undef,undef,undef,undef,undef,undef,undef,undef],defers:=[] })
  (λb a' _ X Y row hs hg hr=>by obtain⟨Bx,h1,h2⟩:=hs;exact⟨Bx,h1.ck (ji.of hg λr e=>(hr r e).2),h2⟩)
  ?assign ?body ?done ?stop
 case assign =>
  rintro l pre b W K hi hK
  gi_wp2
  exact hK _ _ ((KeepsOthers.alloc _ _).from _) (Jd ((Below.refl _ W).alloc (by have:=hi.1.choose_spec.2.bel.size;omega) _) hi.2 (hi.2.alloc _)) (hi.below (brf.alloc nlr _)) ⟨W.heap.size,(Blk.mk' (cur:=#[.int .i64 (b.1:Int)]) rfl rfl).congr (λj hj=>by match j,hj with|0,_=>rfl),rfl⟩
 case body =>
  rintro l pre b a' W hl ⟨r,hr⟩ hi ⟨Bx,a2,rfl⟩ jk;obtain⟨b,ad,b5⟩:=b;dsimp only at a2 ⊢;obtain⟨Yb,dm⟩:∃y,mf p pre s=y:=⟨_,rfl⟩;have fu:Hid (mf p (pre++[⟨b,ad,b5⟩]) s=i7 p b p.ns Yb):=by show _=_;rw[L5,dm]
  have h6:Hid (gh p s Yb):=by show gh p s Yb;rw[<-dm];exact(gh.refl HR.out).B _
  rw[dm] at hi;have gj:=qa2 hl hr;have HJ:Hid (tv p L.heap.size P (E.heap.size+1) o (i7 p b 0 Yb) W/\Blk W Bx 3 1 (λ_ => .int .i64 (b:Int))/\Below o.heap.size W W/\KeepsFrom W6.heap.size W W):=⟨hi,a2,Below.refl _ _,KeepsFrom.refl _ _⟩;have dp:=hid hi;obtain⟨⟨y0,ir,f7⟩,g5⟩:=hi;obtain⟨⟨⟨l1,d0,d1⟩,l2,c0,c1,c2,c3,c4,c5,c6⟩,-,-,-,-⟩:=HC.out W f7.bel;have q0:(0:Int)<=(b:Int):=by omega
  have q1:(b:Int)<(p.nb:Int):=by omega
  clear hl hr dm ir f7 g5 a2 l2 c0 c1 c2 c3 c4 c5 c6
  gi_wp2_with fail
  clear l1 d0 d1
  gi_loopw [27] (λgv wk=>∃g:Nat,g<=p.ns/\gv = .int .i64 g/\Hid (tv p L.heap.size P (E.heap.size+1) o (i7 p b g Yb) wk/\Blk wk Bx 3 1 (λ_ => .int .i64 (b:Int))/\Below o.heap.size W wk/\KeepsFrom W6.heap.size W wk)) (λgv _=>p.ns-(intOf gv).toNat)
  case atStart=>exact⟨0,Qxz _,rfl,HJ⟩
  clear HJ;obtain⟨g,hg,rfl,HJ⟩:=hrel;by_cases br:g<p.ns;rotate_left
  .have il:g=p.ns:=by omega
   have r1:(p.ns:Int)<=(g:Int):=by omega
   gi_wp2_with fail
   refine⟨HJ.out.2.2.2,Jd HJ.out.2.2.1 dp.out.2 HJ.out.1.2,?_⟩;show tv p L.heap.size P (E.heap.size+1) o (mf p (pre++[⟨b,ad,b5⟩]) s) _;rw[fu.out,<-il];exact HJ.out.1
  have r0:(0:Int)<=(g:Int):=by omega
  have r1:(g:Int)<(p.ns:Int):=by omega
  obtain⟨S,cy⟩:∃z,i7 p b g Yb=z:=⟨_,rfl⟩;have cz:=hid cy;have df:Hid (gh p s S):=by show gh p s S;rw[<-cy];exact h6.out.G ad b5 hg
  rw[cy] at HJ;clear cy;obtain⟨⟨⟨y,dl,ew⟩,-⟩,-,-,-⟩:=HJ.out;have f0:=hid dl;have it:Hid (au p y):=dl.right df.out.r;have hm:Hid (dw y b g=dw S b g):=dl.lying df.out.r.fm ad br;obtain⟨W8,gb,a5,K8⟩:∃d,wr.alloc (.cells #[.int .i64 (g:Int)] 3)=d/\Below wr.heap.size wr d/\Blk d wr.heap.size 3 1 (λ_ => .int .i64 (g:Int)):=⟨_,rfl,brf.alloc nlr _,(Blk.mk' (cur:=#[.int .i64 (g:Int)]) rfl rfl).congr (λj hj=>by match j,hj with|0,_=>rfl)⟩;have gs:Hid (wr.alloc (.cells #[.int .i64 (g:Int)] 3)=W8):=gb;have T:=hid (ew.below a5);have a8:=hid K8;have a3:=hid (HJ.out.2.1.below a5);have bg:=hid (HJ.out.1.2.below a5);have g4:o.heap.size<=wr.heap.size:=ew.bel.size;have V:Hid (Below o.heap.size W W8/\KeepsFrom W6.heap.size W W8):=⟨HJ.out.2.2.1.trans (a5.mono g4),HJ.out.2.2.2.trans ((ti a5).from _)⟩;clear gb a5 K8 dl ew HJ
  gi_wp2_with fail
  rw[gs.out];clear gs
  generalize wr.heap.size=Bg at *
  obtain⟨⟨⟨l1,d0,d1⟩,l2,c0,c1,c2,c3,c4,c5,c6⟩,av,-,-,-⟩:=HC.out W8 T.out.bel;obtain⟨bb,ob,ex,ga,z0,z1,z2,z3⟩:=av.bins b ad;have je:=hid ex;rw[ex] at d0;obtain⟨m1,p0,p1,p2,p3,p4,p5,p6⟩:=Boxed.of T.out.box;have dh:=a3.out.k 0;have c7:=a3.out.lt;have dj:=a8.out.k 0;have ey:=a8.out.lt;have cx:=hid T.out.own.at;have dc:Hid (∀wk,y.At wk->Calls prog 89 #[.agg #[.slice y.on.a y.on.n y.on.c,.slice y.os.a y.os.n y.os.c,.slice y.hs.a y.hs.n y.hs.c,.slice y.ms.a y.ms.n y.ms.c,.slice y.si.a y.si.n y.si.c,.slice y.so.a y.so.n y.so.c,.slice y.sf.a y.sf.n y.sf.c],.int .i64 b,.int .i64 g] wk λe w'=>e = .returned (.int .i64 (dw S b g))/\Below wk.heap.size wk w'):=λwk h=>by
   have k:=Ha p y b g wk h it.out.fm ad br;rw[hm.out] at k;exact k
  have ly:=O6 df.out.r.fm ad br;have jj:=Fw HR.out.fm.sh.pl ad;have fh:=Qqq d0;have fk:=Qqq z2;have fz:=Qqq p0;have fx:=Qqq p1;have fn:=Qqq p2;have ft:=Qqq p3;have fq:=Qqq p4;have gm:=Qqq p5;have gc:=Qqq p6;have eb:=Qqq dh;have em:=Qqq dj;have gd:Hid ((p.zb b).low<=dw S b g->i7 p b (g+1) Yb=S):=λh=>by rw[Ok (by rw[cz.out];exact h),cz.out]
  have f1:Hid (¬(p.zb b).low<=dw S b g->i7 p b (g+1) Yb=jl p b g (frX p false p.nb) S):=λh=>by rw[Q0 (by rw[cz.out];exact h),cz.out]
  generalize dw S b g=LY at *
  generalize (p.zb b).low=LW at *
  clear ex av l2 c0 c1 c2 c3 c4 c5 c6 d0 d1 z0 z1 z2 z3 p0 p1 p2 p3 p4 p5 p6 dh dj;by_cases eh:LW<=LY
  .refine ws (by kernel_rfl) (by kernel_rfl) (by kernel_rfl) ?_
   repeat(gi_big_quiet_step (fail))
   refine wpQuietIn_step (λ_ _ _ _=>trivial) (λK hK => ?_)
   go_simp
   apply Exists.intro
   refine⟨λ_ => ?_,hK _ ?_⟩
   ·(gi_at_call 89;exact CallsIn.regrown_of (CallsIn.inRound l (callsIn_wide.2 (dc.out _ (cx.out.below (Qxx _ _ _))))))
   clear hK K
   repeat(gi_big_quiet_step (fail))
   refine wpQuietIn_nil ?_;intro H b8;have M:=af b8;have T:=hid (T.out.below M);have a8:=hid (a8.out.below M);have a3:=hid (a3.out.below M);have bg:=hid (bg.out.below M);have V:Hid (Below o.heap.size W H/\KeepsFrom W6.heap.size W H):=⟨V.out.1.trans (M.mono (by have:=V.out.1.size;have:=dp.out.1.choose_spec.2.bel.size;omega)),V.out.2.trans ((ti M).from _)⟩;clear b8 M cx dc fh fk fz fx fn ft fq gm gc eb em m1 c7 ey ga l1;have HJ:Hid (tv p L.heap.size P (E.heap.size+1) o (i7 p b (g+1) Yb) H/\Blk H Bx 3 1 (λ_ => .int .i64 (b:Int))/\Below o.heap.size W H/\KeepsFrom W6.heap.size W H):=by
    show _/\_;rw[gd.out eh];exact⟨⟨⟨y,f0.out,T.out⟩,bg.out⟩,a3.out,V.out⟩
   gi_wp2_with fail
   go_roundw
   case rel=>exact⟨g+1,by omega,by go_num,HJ⟩
   case measure=>simp[intOf];omega
  refine ws (by kernel_rfl) (by kernel_rfl) (by kernel_rfl) ?_
  repeat(gi_big_quiet_step (fail))
  refine wpQuietIn_step (λ_ _ _ _=>trivial) (λK hK => ?_)
  go_simp
  apply Exists.intro
  refine⟨λ_ => ?_,hK _ ?_⟩
  ·(gi_at_call 89;exact CallsIn.regrown_of (CallsIn.inRound l (callsIn_wide.2 (dc.out _ (cx.out.below (Qxx _ _ _))))))
  clear hK K
  repeat(gi_big_quiet_step (fail))
  refine wpQuietIn_nil ?_;intro H b8;have M:=af b8;have T:=hid (T.out.below M);have a8:=hid (a8.out.below M);have a3:=hid (a3.out.below M);have bg:=hid (bg.out.below M);have V:Hid (Below o.heap.size W H/\KeepsFrom W6.heap.size W H):=⟨V.out.1.trans (M.mono (by have:=V.out.1.size;have:=dp.out.1.choose_spec.2.bel.size;omega)),V.out.2.trans ((ti M).from _)⟩;clear b8 M cx dc fh fk fz fx fn ft fq gm gc eb em m1 c7 ey ga l1;have fi:Hid (i7 p b (g+1) Yb=jl p b g (frX p false p.nb) S):=f1.out eh;obtain⟨⟨⟨l1,d0,d1⟩,-,-,-,-,-,-,-,-⟩,-,-,-,-⟩:=HC.out H T.out.bel;clear gd f1 eh
  gi_wp2_with(refine⟨trivial,?_⟩;(first|gi_at_call 16|gi_at_call 90|gi_at_call 102|gi_at_call 89|gi_at_call 103);refine Rf ?_)
  refine Iu ?_;clear l1 d0 d1;refine(CallsIn.inRound l (Dp Fence.wide _ trivial rfl p false H)).mono ?_;rintro e w' ⟨rfl,rfl⟩
  gi_wp2_with fail
  obtain⟨Q,ej,jm,az,ge,hc⟩:∃d,(H.alloc (.cells #[.slice p.ab p.nb p.cb,.slice p.sa p.ns p.cs] 25)).alloc (.cells #[.bool false] 4)=d/\d.heap.size=H.heap.size+2/\Below H.heap.size H d/\Blk d (H.heap.size+1) 4 1 (λ_ => .bool false)/\d.cell? ⟨H.heap.size,0,none⟩=some (.slice p.ab p.nb p.cb):=
   ⟨_,rfl,by simp,(brf.alloc nlr _).alloc (by simp) _,(Blk.mk' (cur:=#[.bool false]) (by simp) rfl).congr (λj hj=>by match j,hj with|0,_=>rfl),((Blk.new H #[.slice p.ab p.nb p.cb,.slice p.sa p.ns p.cs] 25).alloc (.cells #[.bool false] 4)).cell (j:=0) (by simp)⟩
  rw[ej];have ii:o.heap.size<=H.heap.size:=T.out.bel.size;have f8:o.heap.size<=W.heap.size:=dp.out.1.choose_spec.2.bel.size;have jf:W.heap.size<=H.heap.size:=V.out.1.size;have f9:Hid (Below o.heap.size W Q/\KeepsFrom W6.heap.size W Q):=⟨V.out.1.trans (az.mono ii),V.out.2.trans ((ti az).from _)⟩;have hw:Hid ((tv p L.heap.size P (E.heap.size+1) o (jl p b g [] S) Q/\Blk Q Bx 3 1 (λ_ => .int .i64 (b:Int))/\Blk Q Bg 3 1 (λ_ => .int .i64 (g:Int)))/\Blk Q (H.heap.size+1) 4 1 (λ_ => .bool false)/\(Below o.heap.size W Q/\KeepsFrom W6.heap.size W Q)):=⟨⟨⟨⟨y,f0.out,T.out.below az⟩,bg.out.below az⟩,a3.out.below az,a8.out.below az⟩,ge,f9.out⟩;have hd:Hid (∀d,Below o.heap.size Q d->se d p.ab p.nb p.zb):=λd h=>(HC.out d ((T.out.below az).bel.trans h)).2.1.bins;have a4:o.heap.size<=Q.heap.size:=by omega
  have iq:=ge.k 0;have ic:Q.heap[l]?=some (.loop r):=f9.out.2.same l (.loop r) gj.out.1 gj.out.2 rfl;clear ej T a8 a3 bg V;refine wpIn_rangeFunc_ownN (l₀:=l) (r₀:=r) rfl ic (by decide) (gf:=149) (lb:=#[.pointer (some ⟨H.heap.size,0,none⟩),.pointer (some ⟨H.heap.size+1,0,none⟩)]) rfl trivial (enters_of func149 (by kernel_rfl) rfl)
   ((Jn Fence.wide _ trivial rfl (by decide) H.heap.size (H.heap.size+1) o.heap.size p false Q (by omega) (by omega) a4 hc iq leb bu hd.out).inRound l) Fy (Fx a4 (by omega)) brf (λ_=>rfl)
   (λA d=>(tv p L.heap.size P (E.heap.size+1) o (jl p b g A S) d/\Blk d Bx 3 1 (λ_ => .int .i64 (b:Int))/\Blk d Bg 3 1 (λ_ => .int .i64 (g:Int)))/\Blk d (H.heap.size+1) 4 1 (λ_ => .bool false)/\(Below o.heap.size W d/\KeepsFrom W6.heap.size W d))
   (λc A d=>Cc p L.heap.size P o c (jl p b g A S) d/\(Below o.heap.size W d/\KeepsFrom W6.heap.size W d))
   (λA X Y row hs hg hr=>⟨⟨hs.1.1.ck hg hr a4,hs.1.2.1.ck (ji.of hg λr e=>(hr r e).2),hs.1.2.2.ck (ji.of hg λr e=>(hr r e).2)⟩,hs.2.1.ck (ji.of hg λr e=>(hr r e).2),hs.2.2.1.grown hg (Qzx f8 hs.2.2.1.size) (λk e=>Qzx a4 (hr k e).1),ownFrom_keepsFrom (B:=W6.heap.size) (w₀:=W) (B':=Q.heap.size) (by omega) () X Y row hs.2.2.2 hg hr⟩)
   (λc A X Y row hs hg hr=>⟨hs.1.ck hg hr a4,hs.2.1.grown hg (Qzx f8 hs.2.1.size) (λk e=>Qzx a4 (hr k e).1),ownFrom_keepsFrom (B:=W6.heap.size) (w₀:=W) (B':=Q.heap.size) (by omega) () X Y row hs.2.2 hg hr⟩)
   hw.out
   (λf gg _=>gg={ tmps:=#[.agg #[.slice p.ab p.nb p.cb,.slice p.sa p.ns p.cs],.agg #[.slice s.on.a s.on.n s.on.c,.slice s.os.a s.os.n s.os.c,.slice s.hs.a s.hs.n s.hs.c,.slice s.ms.a s.ms.n s.ms.c,.slice s.si.a s.si.n s.si.c,.slice s.so.a s.so.n s.so.c,.slice s.sf.a s.sf.n s.sf.c],.pointer (some ⟨w.heap.size,0,none⟩),.pointer (some ⟨w.heap.size+1,0,none⟩),.pointer (some ⟨w.heap.size+1+1,0,none⟩),.int .i64 0,.int .i64 0,.pointer (some ⟨P,0,none⟩),.pointer (some ⟨Bx,0,none⟩),.pointer (some ⟨Bg,0,none⟩),.int .i64 (f.1:Int),u11,.agg #[.slice p.ab p.nb p.cb,.slice p.sa p.ns p.cs],.agg #[.slice s.on.a s.on.n s.on.c,.slice s.os.a s.os.n s.os.c,.slice s.hs.a s.hs.n s.hs.c,.slice s.ms.a s.ms.n s.ms.c,.slice s.si.a s.si.n s.si.c,.slice s.so.a s.so.n s.so.c,.slice s.sf.a s.sf.n s.sf.c],.int .i64 0,.int .i64 0,.bool false,undef,undef,.agg #[.slice s.on.a s.on.n s.on.c,.slice s.os.a s.os.n s.os.c,.slice s.hs.a s.hs.n s.hs.c,.slice s.ms.a s.ms.n s.ms.c,.slice s.si.a s.si.n s.si.c,.slice s.so.a s.so.n s.so.c,.slice s.sf.a s.sf.n s.sf.c],.agg #[.slice i.on.a i.on.n i.on.c,.slice i.os.a i.os.n i.os.c,.slice i.hs.a i.hs.n i.hs.c,.slice i.ms.a i.ms.n i.ms.c,.slice i.si.a i.si.n i.si.c,.slice i.so.a i.so.n i.so.c,.slice i.sf.a i.sf.n i.sf.c],.agg #[.slice p.ab p.nb p.cb,.slice p.sa p.ns p.cs],.func (.func 149) #[] #[.pointer (some ⟨E.heap.size,0,none⟩),.pointer (some ⟨E.heap.size+1,0,none⟩)],.int .i64 (b:Int),.pointer (some ⟨w.heap.size,1,none⟩),.slice p.sa p.ns p.cs,.int .i64 (p.ns:Int),.int .i64 (g:Int),.bool true,.int .i64 (g:Int),.agg #[.slice y.on.a y.on.n y.on.c,.slice y.os.a y.os.n y.os.c,.slice y.hs.a y.hs.n y.hs.c,.slice y.ms.a y.ms.n y.ms.c,.slice y.si.a y.si.n y.si.c,.slice y.so.a y.so.n y.so.c,.slice y.sf.a y.sf.n y.sf.c],.int .i64 (b:Int),.int .i64 (g:Int),.int .i64 LY,.pointer (some ⟨w.heap.size,0,none⟩),.slice (some ⟨bb,ob,none⟩) p.nb p.cb,.int .i64 (b:Int),.pointer (some ⟨bb,ob+b*4,none⟩),.pointer (some ⟨bb,ob+b*4+2,none⟩),.int .i64 LW,.bool false,.agg #[.slice p.ab p.nb p.cb,.slice p.sa p.ns p.cs],.func (.func 149) #[] #[.pointer (some ⟨H.heap.size,0,none⟩),.pointer (some ⟨H.heap.size+1,0,none⟩)],.int .i64 (f.1:Int),u44,u45,u46,u47,u48,u49,u50,u51,u52,u53,u54,u55,u56,u57,u58,u59,u60,u61,u62,u63,u64,u65,u66,undef],defers:=[] })
   (λ_ _ _ _ _ _ hs _ _=>hs)
   ?assign2 ?body2 ?done2 ?stop2
  case assign2 =>
   rintro l2 A f d K hi hK
   gi_wp2
   exact hK _ _ (KeepsFrom.refl _ _) ⟨Below.refl _ _,λ_ h=>h⟩ hi rfl
  case done2 =>
   rintro xs d rfl hi;have HJ:Hid (tv p L.heap.size P (E.heap.size+1) o (i7 p b (g+1) Yb) d/\Blk d Bx 3 1 (λ_ => .int .i64 (b:Int))/\Below o.heap.size W d/\KeepsFrom W6.heap.size W d):=by
    show _/\_;rw[fi.out];exact⟨hi.1.1,hi.1.2.1,hi.2.2⟩
   clear hi
   gi_wp2_with fail
   go_roundw
   case rel=>exact⟨g+1,by omega,by go_num,HJ⟩
   case measure=>simp[intOf];omega
  case stop2 =>
   rintro c A d bl ⟨⟨rfl,h8,z,bi,bo⟩,en,dd⟩;have e1:jl p b g (frX p false p.nb) S=jl p b g A S:=Wo bl rfl h8;have e2:i7 p b p.ns Yb=jl p b g A S:=Oj (fi.out.trans e1) h8 (by omega);have b4:Hid (Cc p L.heap.size P o (.exit 0) (mf p (pre++[⟨b,ad,b5⟩]) s) d):=by
    show Cc _ _ _ _ _ _ _;rw[fu.out,e2];exact⟨rfl,h8,z,bi,bo⟩
   clear e1 e2 bl h8 bi bo
   gi_wp2_with fail
   exact⟨dd,b4.out⟩
  case body2 =>
   rintro l2 A f gg d - - hi rfl -;obtain⟨f,bp,c8⟩:=f;dsimp only;obtain⟨YF,da⟩:∃z,jl p b g A S=z:=⟨_,rfl⟩;have b4:Hid (jl p b g (A++[⟨f,bp,c8⟩]) S=nl p b g f YF):=by show _=_;rw[L6,da]
   have gt:Hid (gh p s YF):=by show gh p s YF;rw[<-da];exact df.out.F ad b5 br _
   rw[da] at hi;clear da;obtain⟨⟨⟨⟨z,bi,bo⟩,et⟩,ef,eg⟩,ev,en,dd⟩:=hi;have HS:=hid bi;have f3:Hid (au p z):=bi.right gt.out.r;have el:=hid bi.ms.1;have HK:Hid (de L.heap.size P o z d):=bo;have b1:Hid (Below o.heap.size W d/\KeepsFrom W6.heap.size W d):=⟨en,dd⟩;have J:=qa4 et ef eg ev;have bs:o.heap.size<=d.heap.size:=bo.bel.size;have ms8:=f3.out.fm.ms8;obtain⟨m1,p0,p1,p2,p3,p4,p5,p6⟩:=Boxed.of HK.out.box;clear bi bo en dd et ef eg ev;by_cases h8:z.ms.n=8
   .have ip:((z.ms.n:Int)==8)=true:=by rw[beq_iff_eq];omega
    have ig:Hid (Cc p L.heap.size P o (.exit 0) (jl p b g (A++[⟨f,bp,c8⟩]) S) d):=by
     show Cc _ _ _ _ _ _ _;rw[b4.out,C4 (by rw[<-el.out];omega)];exact⟨rfl,by rw[<-el.out];omega,z,HS.out,HK.out⟩
    clear h8
    gi_wp2_with fail
    exact⟨KeepsFrom.refl _ _,ig.out,b1.out⟩
   have ip:((z.ms.n:Int)==8)=false:=beq_eq_false_iff_ne.2 (by omega);have hf:z.ms.n<8:=by omega
   obtain⟨di,eo,bz,gl⟩:∃X,d.alloc (.cells #[.int .i64 (g:Int),.int .i64 (f:Int),.int .i64 (b:Int),.int .i64 0] 63)=X/\Below d.heap.size d X/\Blk X d.heap.size 63 4 (λj=>(#[.int .i64 (g:Int),.int .i64 (f:Int),.int .i64 (b:Int),.int .i64 0]:Array Value).getD j default):=⟨_,rfl,brf.alloc nlr _,Blk.mk' rfl rfl⟩;have cj:Hid (d.alloc (.cells #[.int .i64 (g:Int),.int .i64 (f:Int),.int .i64 (b:Int),.int .i64 0] 63)=di):=eo;have cr:=hid bz;have d9:=hid gl;have bf:=hid (HK.out.below bz);have dh:=J.out.2.1.k 0;have c7:=J.out.2.1.lt;have dj:=J.out.2.2.1.k 0;have g9:=J.out.2.2.1.lt;obtain⟨⟨⟨l1,d0,d1⟩,-,-,-,-,-,-,-,-⟩,-,-,-,-⟩:=HC.out di bf.out.bel;obtain⟨n1,e0,e1,e2,e3,e4,e5,e6⟩:=Boxed.of bf.out.box;rw[<-cj.out] at l1 d0 d1 n1 e0 e1 e2 e3 e4 e5 e6;clear eo bz gl h8
   gi_wp2_with(refine⟨trivial,?_⟩;(first|gi_at_call 16|gi_at_call 90|gi_at_call 102|gi_at_call 89|gi_at_call 103);refine Rf ?_)
   refine Iu ?_;rw[cj.out];clear l1 d0 d1 n1 e0 e1 e2 e3 e4 e5 e6 m1 p0 p1 p2 p3 p4 p5 p6 dh c7 dj g9 cj;refine(CallsIn.inRound l2 (CallsIn.inRound l (callsIn_wide.2 (Tx p z g f b 0 di (HC.out di bf.out.bel).2.1 bf.out.own.at f3.out br bp ad)))).mono ?_;rintro e am ⟨rfl,cm⟩;have bh:Hid (o5 p z b g f=o5 p YF b g f):=Ft HS.out gt.out.r.fm ad br bp
   generalize o5 p z b g f=NN at *
   have f4:=cr.out.trans (cm.mono cr.out.size);have cd:=d9.out.below cm;have zl:=cd.lt;have dn:=cd.frozen 3;have zc3:=cd.k 3;have U:Hid (Below d.heap.size d (am.setCell ⟨d.heap.size,3,none⟩ (.int .i64 NN))):=f4.setCell (p:=⟨d.heap.size,3,none⟩) nlr _;have bq:Blk (am.setCell ⟨d.heap.size,3,none⟩ (.int .i64 NN)) d.heap.size 63 4 (λj=>(#[.int .i64 (g:Int),.int .i64 (f:Int),.int .i64 (b:Int),.int .i64 NN]:Array Value).getD j default):=(cd.set 3 _).congr λj hj=>by match j,hj with|0,_=>rfl|1,_=>rfl|2,_=>rfl|3,_=>rfl
   have a7:=hid (HK.out.below U.out);have i:=bq.k 0;have x1:=bq.k 1;have x2:=bq.k 2;have x3:=bq.k 3;have xl:=bq.lt;clear cm f4 cd d9 bf cr bq;by_cases h1:1<=NN;rotate_left
   .have d5:Hid (ae z (jl p b g (A++[⟨f,bp,c8⟩]) S)):=by
     rw[b4.out];unfold nl;rw[<-bh.out,if_neg (λc=>h1 c.2)];exact HS.out
    clear bh
    gi_wp2_with fail
    refine⟨(ti U.out).from _,Jd (U.out.mono bs) J.out.2.2.2 (J.out.2.2.2.below U.out),⟨⟨⟨z,d5.out,a7.out⟩,J.out.1.below U.out⟩,J.out.2.1.below U.out,J.out.2.2.1.below U.out⟩,J.out.2.2.2.below U.out,b1.out.1.trans (U.out.mono bs),b1.out.2.trans ((ti U.out).from _)⟩
   have f6:Hid (nl p b g f YF=iw YF ⟨g,f,b,NN⟩):=by
    show _=_;unfold nl;rw[<-bh.out,if_pos ⟨by rw[<-el.out];exact hf,h1⟩]
   obtain⟨iM,hM,hk,he,ho⟩:=info_parts C6;have d8:(am.setCell ⟨d.heap.size,3,none⟩ (.int .i64 NN)).heap.size=am.heap.size:=by simp
   obtain⟨ee,cu,bt⟩:∃X,(am.setCell ⟨d.heap.size,3,none⟩ (.int .i64 NN)).alloc (.cells #[.int .i64 (g:Int),.int .i64 (f:Int),.int .i64 (b:Int),.int .i64 NN] 63)=X/\Below (am.setCell ⟨d.heap.size,3,none⟩ (.int .i64 NN)).heap.size (am.setCell ⟨d.heap.size,3,none⟩ (.int .i64 NN)) X:=⟨_,rfl,brf.alloc nlr _⟩;have er:Hid ((am.setCell ⟨d.heap.size,3,none⟩ (.int .i64 NN)).alloc (.cells #[.int .i64 (g:Int),.int .i64 (f:Int),.int .i64 (b:Int),.int .i64 NN] 63)=ee):=cu;have fv:Hid (∀j u,(dg ⟨g,f,b,NN⟩)[j]?=some u->ee.cell? ((⟨am.heap.size,0,none⟩:Addr).add j)=some u):=by
    have h:=Z9 (am.setCell ⟨d.heap.size,3,none⟩ (.int .i64 NN)) ⟨g,f,b,NN⟩ 63;rw[d8] at h;rw[<-cu];exact h
   obtain⟨n1,e0,e1,e2,e3,e4,e5,e6⟩:=Boxed.of a7.out.box;have an:=hid (a7.out.below bt);have b0:=hid (U.out.trans (bt.mono U.out.size));have jh:=an.out.own.ms.1;have h5:=an.out.own.ms.2.1;unfold maxLen at h5;clear cu bt e0 e1 e2 e4 e5 e6 a7 U d8
   gi_wp2_with(gi_at_builtin;rw[er.out];refine Gw ee rfl (.tmp 61) (.tmp 63) 29 rfl L.heap.size 63 iM (.agg #[.int .i64 0,.int .i64 0,.int .i64 0,.int .i64 0]) 4 32 underlying29 hM hk he ho rfl (by decide) z.ms.a z.ms.n z.ms.c (ax z.ms.n z.ms.z) rfl an.out.own.msr an.out.own.ms.1 an.out.own.ms.2.1 (ep _ _) an.out.own.ms.2.2.2 ⟨am.heap.size,0,none⟩ 1 1 (dg ⟨g,f,b,NN⟩) rfl rfl fv.out (λu hu=>by simp[dg] at hu;rcases hu with rfl|rfl|rfl|rfl<;>rfl) (by decide) ?zc3 ?zc4 an.out.le ?_)
   case zc3=>unfold maxLen;omega
   case zc4=>omega
   intro v2 ei cw bd;obtain⟨k,rfl,gn,kn,kz,kl,a2⟩:=an.out.more A2 A3 cw bd;have d6:=hid bd;have h4:=hid gn;have d5:Hid (ae (withMoves z k) (jl p b g (A++[⟨f,bp,c8⟩]) S)):=by
    rw[b4.out,f6.out];exact Cv HS.out _ kn kz kl
   have cc:Hid (∀q t m g',t≠63->t≠31->Blk d q t m g'->Blk (ei.setCell ⟨P,3,none⟩ (.slice k.a k.n k.c)) q t m g'):=λq t m g' h1 h2 hb=>by
    have h3:=d6.out.blk (hb.below b0.out) h1;exact h3.other (a:=⟨P,3,none⟩) (Blk.ne2 h3 a2 h2) _
   have gr:Hid (Below o.heap.size d (ei.setCell ⟨P,3,none⟩ (.slice k.a k.n k.c))):=(d6.out.below (b0.out.mono bs) A2 (Qzx bs b0.out.size)).setCell (p:=⟨P,3,none⟩) (by show o.heap.size<=P;omega) _;have fl:Hid (KeepsOthers d (ei.setCell ⟨P,3,none⟩ (.slice k.a k.n k.c))):=((ti b0.out).trans d6.out.keeps).trans (KeepsOthers.setCell _ _ _);have z1:=a2.lt;have z2:=a2.frozen 3;have z3:=a2.k 3;clear cw bd gn kn kz kl a2 fv er n1 e3 i x1 x2 x3 xl zl dn zc3 f6 bh
   try simp only[Act.put,Qvq,Qwx,Qwz]
   gi_wp2_with fail
   refine⟨fl.out.from _,Jd gr.out J.out.2.2.2 (cc.out _ _ _ _ (by decide) (by decide) J.out.2.2.2),⟨⟨⟨withMoves z k,d5.out,h4.out⟩,cc.out _ _ _ _ (by decide) (by decide) J.out.1⟩,cc.out _ _ _ _ (by decide) (by decide) J.out.2.1,cc.out _ _ _ _ (by decide) (by decide) J.out.2.2.1⟩,cc.out _ _ _ _ (by decide) (by decide) J.out.2.2.2,b1.out.1.trans gr.out,b1.out.2.trans (fl.out.from _)⟩
 case done =>
  rintro D xs W hD rfl ⟨⟨x,b6,a1⟩,-⟩ hK;have eu:=hid b6;clear b6;obtain⟨m1,p0,p1,p2,p3,p4,p5,p6⟩:=Boxed.of a1.box;obtain⟨-,-,-,ac,hz⟩:=HC.out W a1.bel;have HZ:=qa2 ac hz;obtain⟨zl,fo,f5,gp,zc1,fp,zc2,dn,zc3,fj,zc4,gk,zc5,fs,fw⟩:=z7 hz;have g7:=(HC.out _ brf).2.2.2.1.size;have a7:=hid a1;have es:=hid hK;clear ac hz a1 hK
  gi_wp2_with fail
  have KZ:=s7b HZ.out.2 x;have ar:=s7w (b:=w.heap.size+2) HZ.out.1 (by omega) x;have b3:=s7o a7.out.own HZ.out.2 x;have bj:=(Pe (w:=W) (show D≠w.heap.size+2 by omega) (.slice x.on.a x.on.n x.on.c) (.slice x.os.a x.os.n x.os.c) (.slice x.hs.a x.hs.n x.hs.c) (.slice x.ms.a x.ms.n x.ms.c) (.slice x.si.a x.si.n x.si.c) (.slice x.so.a x.so.n x.so.c) (.slice x.sf.a x.sf.n x.sf.c)).trans es.out;unfold set7 at KZ ar b3 bj;have ck:=ji.of (grownBy_putObj' _ D (.deferred none)) (λr e=>by cases e;exact⟨_,bj,rfl⟩);have ek:=KZ.ck ck;have be:=b3.ck ck;have ct:=ar.grown (grownBy_putObj' _ D (.deferred none)) (by have:=ar.size;omega) (λk e=>by cases e;omega);obtain⟨ca,cg,ce,b7,b9,ch,cf⟩:=cn ek;refine Ia (v := .tuple #[x.val,.int .i64 0]) bj (by simp[results,results46,go_sem,St.val,ca,cg,ce,b7,b9,ch,cf]) rfl ?_;exact⟨x,by rw[H0.out];rfl,be.at,⟨λ_=>eu.out,λh=>absurd H0.out h⟩,λ_=>be.mono (by omega),ct⟩
 case stop =>
  rintro D c pre W hD bl ⟨rfl,h8,x,b6,a1⟩ hK;have eu:Hid (ae x (yp p s)):=by
   have e:yp p s=mf p pre s:=Wn bl rfl h8;rw[e];exact b6
  clear b6 h8 bl;obtain⟨m1,p0,p1,p2,p3,p4,p5,p6⟩:=Boxed.of a1.box;obtain⟨-,-,-,ac,hz⟩:=HC.out W a1.bel;have HZ:=qa2 ac hz;obtain⟨zl,fo,f5,gp,zc1,fp,zc2,dn,zc3,fj,zc4,gk,zc5,fs,fw⟩:=z7 hz;have g7:=(HC.out _ brf).2.2.2.1.size;have a7:=hid a1;have es:=hid hK;clear ac hz a1 hK
  gi_wp2_with fail
  have KZ:=s7b HZ.out.2 x;have ar:=s7w (b:=w.heap.size+2) HZ.out.1 (by omega) x;have b3:=s7o a7.out.own HZ.out.2 x;have bj:=(Pe (w:=W) (show D≠w.heap.size+2 by omega) (.slice x.on.a x.on.n x.on.c) (.slice x.os.a x.os.n x.os.c) (.slice x.hs.a x.hs.n x.hs.c) (.slice x.ms.a x.ms.n x.ms.c) (.slice x.si.a x.si.n x.si.c) (.slice x.so.a x.so.n x.so.c) (.slice x.sf.a x.sf.n x.sf.c)).trans es.out;unfold set7 at KZ ar b3 bj;have ck:=ji.of (grownBy_putObj' _ D (.deferred none)) (λr e=>by cases e;exact⟨_,bj,rfl⟩);have ek:=KZ.ck ck;have be:=b3.ck ck;have ct:=ar.grown (grownBy_putObj' _ D (.deferred none)) (by have:=ar.size;omega) (λk e=>by cases e;omega);obtain⟨ca,cg,ce,b7,b9,ch,cf⟩:=cn ek;refine Ia (v := .tuple #[x.val,.int .i64 0]) bj (by simp[results,results46,go_sem,St.val,ca,cg,ce,b7,b9,ch,cf]) rfl ?_;exact⟨x,by rw[H0.out];rfl,be.at,⟨λ_=>eu.out,λh=>absurd H0.out h⟩,λ_=>be.mono (by omega),ct⟩
theorem Vy(p:Pl)(s:St)(k n:Int)(w:World)(hp:p.At w)(hs:s.At w):
  Calls prog 47 #[p.val,s.val,.int .i64 k,.int .i64 n] w λe U=>∃x:St,e = .returned (.tuple #[x.val,.int .i64 (fk p s k n)])/\x.At U/\du (fk p s k n) (jd s k.toNat n) x/\(fk p s k n=0->ai w.heap.size U x)/\Below w.heap.size w U:=by
 obtain⟨W0,hW,fl,X0,Z0⟩:=Ab w p s;have HC:=yu hp hs fl X0 Z0;have HW:=hid hW;have leb:=hp.leb;have bu:=hp.capb;have les:=hp.les;have bn:=hp.caps;have capb:=bu;have caps:=bn;have gl:=Z0.lt;unfold maxLen at capb caps;have dx:=hs.ms.le;have bk:=hs.ms.cap;have aj:s.ms.n<=maxLen:=Qzx dx bk;have eb:=bk;have dt:=aj;unfold maxLen at eb dt;clear hW X0 Z0 hp hs;unfold Pl.val St.val;go_enter func47,ntmps47;go_wp2_with fail;rw[HW.out];obtain⟨X,F,y,B,E⟩:=HC.out W0 brf;refine(lm p s W0 F y).mono ?_;rintro e w1 ⟨rfl,hB⟩;clear X F y B E HW;obtain⟨⟨⟨l1,d0,d1⟩,l2,c0,c1,c2,c3,c4,c5,c6⟩,F,y,B,E⟩:=HC.out w1 hB;by_cases h0:ag p s=0;rotate_left
 .have S:Hid (fk p s k n=ag p s):=vx h0;have f3:Hid (¬fk p s k n=0):=by show ¬_;rw[vx h0];exact h0
  have g0:(ag p s !=0)=true:=by simpa using h0
  clear h0;clear F y;obtain⟨zl,bv,bs,b7,zc1,bw,zc2,ad,zc3,bt,zc4,b6,zc5,bx,b4⟩:=z7 E;go_wp2_with fail;exact gz results47 E B (by omega) S.out (λh=>f3.out (S.out.trans h)) rfl rfl rfl
 have H0:=hid h0;have J:Hid (au p s):=ed h0;rw[h0];clear h0;cases h1:inB k 0 ((s.ms.n:Int)-1)
 .have S:Hid (fk p s k n=4):=Eh H0.out h1;clear F y;obtain⟨zl,bv,bs,b7,zc1,bw,zc2,ad,zc3,bt,zc4,b6,zc5,bx,b4⟩:=z7 E;go_wp2_with(go_at_call 71;refine ah (dk _ _ _ aj) ?_);exact gz results47 E B (by omega) S.out (by decide) rfl rfl rfl
 obtain⟨i,rfl⟩:∃i:Nat,k=i:=⟨k.toNat,by have:=aq h1;omega⟩;have hi:i<s.ms.n:=by have:=aq h1;omega
 have aa:=qn (J.out.fm.move i hi);obtain⟨f,b,g,N,hm⟩:∃(f b g:Nat) (N:Int),s.ms.z i=⟨g,f,b,N⟩:=⟨(s.ms.z i).l.toNat,(s.ms.z i).b.toNat,(s.ms.z i).o.toNat,(s.ms.z i).n,by rw[Int.toNat_of_nonneg aa.1.1,Int.toNat_of_nonneg aa.2.1.1,Int.toNat_of_nonneg aa.2.2.1.1]⟩;have HM:=hid hm;rw[hm] at aa;dsimp only at aa;obtain⟨u1,u2,u3,u4,u5,u6⟩:=aa;have L:g<p.ns:=by omega
 have ab:f<p.nb:=by omega
 have ba:b<p.nb:=by omega
 have cj:¬f=b:=by omega
 have H1:=hid h1;obtain⟨bm,om,cz,f0,y0,y1,y2,y3⟩:=y.ms.hds i hi;rw[hm] at y0 y1 y2 y3;dsimp only at y0 y1 y2 y3;have fc:=hid cz;rw[cz] at c3;obtain⟨W2,dy,cm,K2⟩:∃W,w1.alloc (.cells #[.int .i64 (g:Int),.int .i64 (f:Int),.int .i64 (b:Int),.int .i64 N] 63)=W/\Below w1.heap.size w1 W/\Blk W w1.heap.size 63 4 (λj=>(#[.int .i64 (g:Int),.int .i64 (f:Int),.int .i64 (b:Int),.int .i64 N]:Array Value).getD j default):=⟨_,rfl,brf.alloc nlr _,Blk.mk' rfl rfl⟩;have d6:Hid (w1.alloc (.cells #[.int .i64 (g:Int),.int .i64 (f:Int),.int .i64 (b:Int),.int .i64 N] 63)=W2):=dy;have bz:=hB.trans (cm.mono hB.size);have u:=hid K2;have q0:(0:Int)<=(i:Int):=by omega
 have q1:(i:Int)<(s.ms.n:Int):=by omega
 have A1:W0.heap.size<=w1.heap.size:=hB.size;clear F y B E cz dy K2 hm;go_wp2_with(go_at_call 71;refine ah (dk _ _ _ aj) ?_);rw[d6.out];refine ah (ch _ _ _ _) ?_;clear l1 d0 d1 l2 c0 c1 c2 c3 c4 c5 c6 f0 y0 y1 y2 y3 d6 cm hB h1
 generalize w1.heap.size=Q at *
 obtain⟨⟨⟨l1,d0,d1⟩,l2,c0,c1,c2,c3,c4,c5,c6⟩,F,y,B,E⟩:=HC.out W2 bz;rw[fc.out] at c3;cases h2:inB n 0 N
 .have S:Hid (fk p s i n=3):=C9 H0.out H1.out (by rw[Int.toNat_natCast,HM.out];exact h2);clear F y;obtain⟨zl,bv,bs,b7,zc1,bw,zc2,ad,zc3,bt,zc4,b6,zc5,bx,b4⟩:=z7 E;go_wp2_with fail;exact gz results47 E B (by omega) S.out (by decide) rfl rfl rfl
 have nn:=aq h2;have H2:Hid (inB n 0 (s.ms.z (i:Int).toNat).n=true):=by show inB n 0 (s.ms.z (i:Int).toNat).n=true;rw[Int.toNat_natCast,HM.out];exact h2
 have a0:b<s.on.n:=by rw[J.out.fm.sh.n];exact ba
 have rn:=J.out.fm.sh.len b a0;have ce:Hid ((s.on.r (s.ms.z (i:Int).toNat).b.toNat).z (s.ms.z (i:Int).toNat).o.toNat=(s.on.r b).z g):=by show _=_;rw[Int.toNat_natCast,HM.out];simp only[Int.toNat_natCast]
 obtain⟨bo,oo,dw,e9,z0,al⟩:=y.on.rows b a0;obtain⟨br,gw,dz,fp,z1⟩:=al.ints g (by omega);have v1:=al.le;have v2:=al.cap;have v3:=y.on.le;have v4:=y.on.cap;unfold maxLen at v2 v4;have zb:=J.out.fm.sh.num b a0 g L;have m0:W2.cell? ⟨Q,0,none⟩=some (.int .i64 g):=u.out.k 0;have m2:W2.cell? ⟨Q,2,none⟩=some (.int .i64 b):=u.out.k 2;have ml:=u.out.lt;have q2:(0:Int)<=(b:Int):=by omega
 have q3:(b:Int)<(s.on.n:Int):=by omega
 have q4:(0:Int)<=(g:Int):=by omega
 have q5:(g:Int)<((s.on.r b).n:Int):=by omega
 rw[dw] at c0;rw[dz] at z0;have fj:=Qqq c0;have fh:=Qqq z0;have fy:=Qqq z1;have av:=Qqq m0;have f4:=Qqq m2
 generalize hZB:(s.on.r b).z g=ZB at *
 clear dw dz al c1 c2 c3 c4 c5 c6 d0 d1 m0 m2 z0 z1 c0;go_wp2_with fail;refine Qxq (by kernel_rfl) (by kernel_rfl) ?_
 repeat(go_big_quiet_step(fail))
 refine Qqz ?_;intro K d5;have bj:=af d5;have u:=hid (u.out.below bj);have b8:=bz.trans (bj.mono bz.size);clear fj fh fy av f4 d5 e9 fp ml F y B E l1 l2 bj bz v1 v2 v3 v4;obtain⟨⟨⟨l1,d0,d1⟩,l2,c0,c1,c2,c3,c4,c5,c6⟩,F,y,B,E⟩:=HC.out K b8;by_cases h3:200<ZB+n
 .have S:Hid (fk p s i n=2):=Eg H0.out H1.out H2.out (by rw[ce.out];exact h3);have d3:200-ZB<n:=by omega
  clear F y;obtain⟨zl,bv,bs,b7,zc1,bw,zc2,ad,zc3,bt,zc4,b6,zc5,bx,b4⟩:=z7 E;go_wp2_with fail;exact gz results47 E B (by omega) S.out (by decide) rfl rfl rfl
 have S:Hid (fk p s i n=0):=O7 H0.out H1.out H2.out (by rw[ce.out];exact h3);have HI:Hid (o9 p s i f b g N n):=⟨J.out,hi,HM.out,ab,ba,L,cj,nn.1,nn.2,u5,u6,by rw[hZB];omega⟩;have d3:¬200-ZB<n:=by omega
 have ec:Hid (Calls prog 90 #[s.val] K λe U=>∃s':St,e = .returned s'.val/\ae s' s/\ai K.heap.size U s'/\Below K.heap.size K U):=nd p s K y J.out.fm;have gx:=hid B;clear F y B E h3 ce;go_wp2_with fail;refine Calls.mono ec.out ?_;rintro e w4 ⟨t,rfl,A,ci,b5⟩;clear ec l1 d0 d1 l2 c0 c1 c2 c3 c4 c5 c6 h2 d3;have b0:=hid A;have ea:i<t.ms.n:=by rw[A.ms.1];exact hi
 have dj:f<t.on.n:=by rw[A.on.1,J.out.fm.sh.n];exact ab
 have cg:b<t.on.n:=by rw[A.on.1,J.out.fm.sh.n];exact ba
 have cu:g<(t.on.r f).n:=by rw[(A.on.2 f dj).1,J.out.fm.sh.len f (by rw[J.out.fm.sh.n];exact ab)];exact L
 have c8:g<(t.on.r b).n:=by rw[(A.on.2 b cg).1,J.out.fm.sh.len b a0];exact L
 have vf:0<=(t.on.r f).z g/\(t.on.r f).z g<=200:=by rw[A.num J.out.fm ab L];exact J.out.fm.sh.num f (by rw[J.out.fm.sh.n];exact ab) g L
 have vb:0<=(t.on.r b).z g/\(t.on.r b).z g<=200:=by rw[A.num J.out.fm ba L,hZB];exact zb
 obtain⟨W5,d7,bf,K5⟩:=ab7 w4 t;have c7:=hid d7;have am:=b5.trans (bf.mono b5.size);have A2:W0.heap.size<=K.heap.size:=b8.size;have A3:K.heap.size<=w4.heap.size:=b5.size;have ac:Hid (de K.heap.size w4.heap.size W0 t W5):=⟨ai.below ci bf,K5,b8.trans (am.mono b8.size),by have:=am.size;omega⟩;have c9:Q<K.heap.size:=u.out.lt;have u:=hid (u.out.below am);clear d7 ci K5 b5 bf am A zb;obtain⟨m1,p0,p1,p2,p3,p4,p5,p6⟩:=Boxed.of ac.out.box;have q6:(i:Int)+1<=9223372036854775807:=by omega
 rw[<-c7.out] at m1 p0 p1 p2 p3 p4 p5 p6;simp only[St.val];go_wp2_with fail;rw[c7.out];clear m1 p0 p1 p2 p3 p4 p5 p6 c7;refine Calls.mono (X8 K.heap.size t i W5 ac.out.le ac.out.own ea) ?_;rintro e w6 ⟨rfl,bq,co,cs⟩
 generalize w4.heap.size=Y at *
 have M:=cs _ _ _ _ (by decide) ac.out.box;have ar:Hid (de K.heap.size Y W0 (withMoves t (Bv t.ms i)) (w6.setCell ⟨Y,3,none⟩ (.slice t.ms.a (t.ms.n-1) t.ms.c))):=ac.out.moves A2 A3 (m:=Bv t.ms i) bq co cs;have u:Hid (Blk (w6.setCell ⟨Y,3,none⟩ (.slice t.ms.a (t.ms.n-1) t.ms.c)) Q 63 4 (λj=>(#[.int .i64 (g:Int),.int .i64 (f:Int),.int .i64 (b:Int),.int .i64 N]:Array Value).getD j default)):=(u.out.same (co.block Q c9)).other (a:=⟨Y,3,none⟩) (show Q≠Y by omega) _;have zl:=M.lt;have ad:=M.frozen 3;have zc3:=M.k 3;clear bq co cs M ac;go_wp2_with fail;clear zl ad zc3
 generalize w6.setCell ⟨Y,3,none⟩ (.slice t.ms.a (t.ms.n-1) t.ms.c)=W7 at *
 generalize hx1:withMoves t (Bv t.ms i)=D at *
 have b9:f<D.on.n:=by rw[<-hx1];exact dj
 have d4:b<D.on.n:=by rw[<-hx1];exact cg
 have bi:g<(D.on.r f).n:=by rw[<-hx1];exact cu
 have di:g<(D.on.r b).n:=by rw[<-hx1];exact c8
 have wf:0<=(D.on.r f).z g/\(D.on.r f).z g<=200:=by rw[<-hx1];exact vf
 have wb:0<=(D.on.r b).z g/\(D.on.r b).z g<=200:=by rw[<-hx1];exact vb
 have d9:=hid hx1;clear hx1 vf vb;obtain⟨g0,G,a1,a2,a3,a4,a5,a6,a7,a8,a9,ck,df,ax⟩:=ar.out.own.onCell b9 bi;have u0:W7.cell? ⟨Y,0,none⟩=some (.slice D.on.a D.on.n D.on.c):=ar.out.box.k 0;have cd:=ar.out.box.lt;rw[a1] at u0;unfold maxLen at a8 ax;have m0:W7.cell? ⟨Q,0,none⟩=some (.int .i64 g):=u.out.k 0;have m1:W7.cell? ⟨Q,1,none⟩=some (.int .i64 f):=u.out.k 1;have ml:=u.out.lt;have r0:(0:Int)<=(f:Int):=by omega
 have r1:(f:Int)<(D.on.n:Int):=by omega
 have r2:(0:Int)<=(g:Int):=by omega
 have r3:(g:Int)<((D.on.r f).n:Int):=by omega
 have da:=Qqq u0;have cy:=Qqq a3;have dl:=Qqq a9;have av:=Qqq m0;have cr:=Qqq m1;clear u0 a1 a3 a9 m0 m1;refine i9 [(true,[0,1,2,3,4,5,6,7,8,9,10,11,12],some 13)] ?_;refine⟨λU=>∃p:Regrown,U=grow (redrawn W7 p.d) p.os,Qqx (brf.drew),λh=>(by cases h),?_⟩;simp only[dv,Qyq,Xqq,Qyx,Qyz,Xqz,Xqx]
 repeat(go_big_quiet_step(fail))
 refine Qqz ?_;clear da cy dl av cr cd ml a2 a6 ck;have P:Below W7.heap.size W7 W7.drew:=brf.drew
 generalize W7.drew=wj at *
 have T:=hid (ar.out.below P);have bc:=hid (u.out.below P);have V:=(T.out.own.rowBlk b9 a4).2;have b1:=V.lt;have b2:=V.frozen g;have b3:=V.cell bi;have az:Hid (de K.heap.size Y W0 (setOn D f g ((D.on.r f).z g-n)) (wj.setCell ⟨G,g,none⟩ (.int .i64 ((D.on.r f).z g-n)))):=T.out.setOn A2 b9 a4 g _;have u:Hid (Blk (wj.setCell ⟨G,g,none⟩ (.int .i64 ((D.on.r f).z g-n))) Q 63 4 (λj=>(#[.int .i64 (g:Int),.int .i64 (f:Int),.int .i64 (b:Int),.int .i64 N]:Array Value).getD j default)):=bc.out.other (a:=⟨G,g,none⟩) (Blk.ne2 bc.out V (by decide)) _;clear P V ar T bc a4 a5 a7 a8 df ax;refine kq 13 rfl ?_;go_wp2_with fail;refine NoPanic.normal ?_;clear b1 b2 b3 r0 r1 r2 r3
 generalize wj.setCell ⟨G,g,none⟩ (.int .i64 ((D.on.r f).z g-n))=W8 at *
 go_wp2_with fail
 generalize hx2:setOn D f g ((D.on.r f).z g-n)=H at *
 have d2:=hid hx2;have bp:b<H.on.n:=by rw[<-hx2];exact d4
 have bl:g<(H.on.r b).n:=by rw[<-hx2,rd];exact di
 have ct:Hid ((H.on.r b).z g=(D.on.r b).z g):=by show(H.on.r b).z g=_;rw[<-hx2,Bo,if_neg (λe=>cj e.1.symm)]
 have fu:0<=(H.on.r b).z g/\(H.on.r b).z g<=200:=by rw[ct.out];exact wb
 clear hx2;obtain⟨g0,G,a1,a2,a3,a4,a5,a6,a7,a8,a9,ck,df,ax⟩:=az.out.own.onCell bp bl;have u0:W8.cell? ⟨Y,0,none⟩=some (.slice H.on.a H.on.n H.on.c):=az.out.box.k 0;have cd:=az.out.box.lt;rw[a1] at u0;unfold maxLen at a8 ax;have m0:W8.cell? ⟨Q,0,none⟩=some (.int .i64 g):=u.out.k 0;have m1:W8.cell? ⟨Q,2,none⟩=some (.int .i64 b):=u.out.k 2;have ml:=u.out.lt;have r0:(0:Int)<=(b:Int):=by omega
 have r1:(b:Int)<(H.on.n:Int):=by omega
 have r2:(0:Int)<=(g:Int):=by omega
 have r3:(g:Int)<((H.on.r b).n:Int):=by omega
 have da:=Qqq u0;have cy:=Qqq a3;have dl:=Qqq a9;have av:=Qqq m0;have cr:=Qqq m1;clear u0 a1 a3 a9 m0 m1;refine i9 [(true,[0,1,2,3,4,5,6,7,8,9,10,11,12],some 13)] ?_;refine⟨λU=>∃p:Regrown,U=grow (redrawn W8 p.d) p.os,Qqx (brf.drew),λh=>(by cases h),?_⟩;simp only[dv,Qyq,Xqq,Qyx,Qyz,Xqz,Xqx]
 repeat(go_big_quiet_step(fail))
 refine Qqz ?_;clear da cy dl av cr cd ml a2 a6 ck;have P:Below W8.heap.size W8 W8.drew:=brf.drew
 generalize W8.drew=wj at *
 have T:=hid (az.out.below P);have bc:=hid (u.out.below P);have V:=(T.out.own.rowBlk bp a4).2;have b1:=V.lt;have b2:=V.frozen g;have b3:=V.cell bl;have cw:Hid (de K.heap.size Y W0 (setOn H b g ((H.on.r b).z g+n)) (wj.setCell ⟨G,g,none⟩ (.int .i64 ((H.on.r b).z g+n)))):=T.out.setOn A2 bp a4 g _;clear P V az T bc a4 a5 a7 a8 df ax;refine kq 13 rfl ?_;go_wp2_with fail;refine NoPanic.normal ?_;clear b1 b2 b3 r0 r1 r2 r3
 generalize wj.setCell ⟨G,g,none⟩ (.int .i64 ((H.on.r b).z g+n))=W9 at *
 generalize hx3:setOn H b g ((H.on.r b).z g+n)=x3 at *
 have fz:Hid (ae x3 (jd s i n)):=by
  have h:=Bh HI.out b0.out (q:=Bv t.ms i) (by show t.ms.n-1=_;rw[b0.out.ms.1]) (λj hj=>by
   have gy:j<t.ms.n-1:=hj;show(if j<i then t.ms.z j else t.ms.z (j+1))=if j<i then s.ms.z j else s.ms.z (j+1);rw[b0.out.ms.2 j (by omega),b0.out.ms.2 (j+1) (by omega)])
  have e:tt t (Bv t.ms i) f b g n=x3:=by
   unfold tt;rw[<-hx3,ct.out,<-d2.out,<-d9.out]
   rfl
  rw[e] at h;exact h
 clear hx3 ct;obtain⟨m1,p0,p1,p2,p3,p4,p5,p6⟩:=Boxed.of cw.out.box;obtain⟨-,-,-,B,E⟩:=HC.out W9 cw.out.bel;have HZ:=qa2 B E;obtain⟨zl,bv,bs,b7,zc1,bw,zc2,ad,zc3,bt,zc4,b6,zc5,bx,b4⟩:=z7 E;have gp:=(HC.out _ brf).2.2.2.1.size;clear B E ea dj cg cu c8 b9 d4 bi di wf wb bp bl fu u1 u2 u3 u4 u5 u6 q0 q1 q2 q3 q4 q5 q6 rn hZB hi a0 nn L ab ba cj c9 d9 d2 dx bk aj eb dt leb bu les bn capb caps;go_wp2_with fail;have KZ:=s7b HZ.out.2 x3;have d8:=s7w (b:=w.heap.size+2) HZ.out.1 (by omega) x3;have cx:=s7o cw.out.own HZ.out.2 x3;unfold set7 at KZ d8 cx;obtain⟨fd,fw,fn,f2,e7,f8,fr⟩:=cn KZ;refine Xzq (v := .tuple #[x3.val,.int .i64 0]) (by simp[results,results47,go_sem,St.val,fd,fw,fn,f2,e7,f8,fr]) rfl ?_;exact⟨x3,by rw[S.out];rfl,cx.at,⟨λ_=>fz.out,λh=>absurd S.out h⟩,λ_=>cx.mono (by omega),d8⟩
end Go.Proofs.YtbcacebifpagpagGreat
namespace Go.Proofs.YtbcacebifpagpagGreat
open _root_.Go.Proofs.Tryz
open Go.RowKit Go.MapKept Go.ChangeMaps
def m9(o l:Nat):Value := .agg #[.int .i64 (o:Int),.int .i64 (l:Int)]
theorem Rc{o l b a:Nat}(h:m9 o l=m9 b a):o=b/\l=a:=by
 unfold m9 at h;simp only[Value.agg.injEq] at h;have d:(#[.int .i64 (o:Int),.int .i64 (l:Int)]:Array Value)[0]?=(#[.int .i64 (b:Int),.int .i64 (a:Int)]:Array Value)[0]?:=by rw[h]
 have c:(#[.int .i64 (o:Int),.int .i64 (l:Int)]:Array Value)[1]?=(#[.int .i64 (b:Int),.int .i64 (a:Int)]:Array Value)[1]?:=by rw[h]
 simp at d c;omega
theorem Ar:WideMaps.KeyLaw prog 180 :=
 deep_law_gate (show laidOutB prog=true by kernel_rfl) (of_decide_eq_true (by kernel_rfl)) (of_decide_eq_true (by kernel_rfl)) (by kernel_rfl) (by kernel_rfl)
theorem Y7:((List.range 4).all λo=>(List.range 3).all λl=>(keyOf prog 180 (m9 o l)).isSome)=true:=by kernel_rfl
theorem Nn{o l:Nat}(b:o<4)(a:l<3):∃k,keyOf prog 180 (m9 o l)=some k :=
 Option.isSome_iff_exists.1 (List.all_eq_true.1 (List.all_eq_true.1 Y7 o (List.mem_range.2 b)) l (List.mem_range.2 a))
theorem Dw:prog.underlying 137=some (.map 180 3):=by kernel_rfl
def ki(w:World)(r:Nat)(q:Int->Int->Int):Prop:=∃es clock,w.heap[r]?=some (.map es clock)/\Stamped es clock/\(∀x,x∈es.toList->∃o l:Nat,o<4/\l<3/\x.key=m9 o l/\x.val = .int .i64 (q o l))/\∀o l:Nat,o<4->l<3->(∀x,x∈es.toList->x.key≠m9 o l)->q o l=0
theorem ki.lt{w:World}{r:Nat}{q:Int->Int->Int}(h:ki w r q):r<w.heap.size:=by
 obtain⟨b,c,a,-⟩:=h;exact(Qkq a).1
theorem ki.same{w a:World}{r:Nat}{q:Int->Int->Int}(h:ki w r q)(e:a.heap[r]?=w.heap[r]?):ki a r q:=by
 obtain⟨b,c,d,f⟩:=h;exact⟨b,c,e.trans d,f⟩
theorem ki.below{w a:World}{r:Nat}{q:Int->Int->Int}(h:ki w r q)(b:Below w.heap.size w a):ki a r q:=h.same (b.block r h.lt)
theorem ki.set{w:World}{r:Nat}{q:Int->Int->Int}(h:ki w r q){g j:Nat}(a:r≠g)(u:Value):ki (w.setCell ⟨g,j,none⟩ u) r q:=h.same (Below.heap_setCell w ⟨g,j,none⟩ u r a)
theorem ki.new(w:World):ki (w.alloc (.map #[] 0)) w.heap.size (λ_ _=>0):=by
 refine⟨#[],0,(heap_alloc w _).1,stamped_empty 0,λx hx=>by simp at hx,λ_ _ _ _ _=>rfl⟩
theorem ki.congr{w:World}{r:Nat}{q d:Int->Int->Int}(h:ki w r q)(e:∀o l:Nat,o<4->l<3->d o l=q o l):ki w r d:=by
 obtain⟨f,c,g,n,k,i⟩:=h;refine⟨f,c,g,n,λx hx => ?_,λo l a b j=>by rw[e o l a b];exact i o l a b j⟩;obtain⟨o,l,a,b,m,p⟩:=k x hx;exact⟨o,l,a,b,m,by rw[e o l a b];exact p⟩
theorem ki.keys{a:Array MapEntry}{q:Int->Int->Int}(b:∀x,x∈a.toList->∃o l:Nat,o<4/\l<3/\x.key=m9 o l/\x.val = .int .i64 (q o l)):∀e∈a.toList,∃l,keyOf prog 180 e.key=some l:=λe f=>by
 obtain⟨o,l,g,d,c,-⟩:=b e f;rw[c];exact Nn g d
theorem Rb{w:World}{r:Nat}{q:Int->Int->Int}(h:ki w r q){o l:Nat}(i:o<4)(n:l<3):(Instr.lookup 137 (.map (some r)) (m9 o l) false).run prog w = .ok (.int .i64 (q o l)) w:=by
 obtain⟨p,c,g,z,m,s⟩:=h;obtain⟨k,d⟩:=Nn i n;rcases Ar.find w d p.toList (ki.keys m) with⟨f,b⟩|⟨j,e,f,b,t⟩
 .have u:=s o l i n b;simp[Instr.lookup,run_underlying Dw,MapKept.run_getObj_map g,Ar.check w _ d,f,Result.andThen,u]
 obtain⟨y,x,-,-,a,v⟩:=m e (List.mem_of_getElem? b);rw[t] at a;obtain⟨rfl,rfl⟩:=Rc a;simp[Instr.lookup,run_underlying Dw,MapKept.run_getObj_map g,Ar.check w _ d,f,Result.andThen,v]
def qt(q:Int->Int->Int)(o l:Nat)(v:Int)(a b:Int):Int:=if a=o/\b=l then v else q a b
structure qm(r:Nat)(w w':World):Prop where
 os:w'.os=w.os
 tape:w'.tape=w.tape
 output:w'.output=w.output
 size:w'.heap.size=w.heap.size
 block:∀k,k≠r->w'.heap[k]?=w.heap[k]?
theorem zj{w:World}{r:Nat}{x:Obj}(o:Obj)(h:w.heap[r]?=some x):qm r w (setBlock w r o):=⟨rfl,rfl,rfl,by simp[setBlock],(heap_set h).2⟩
theorem qm.trans{r:Nat}{a b c:World}(h:qm r a b)(k:qm r b c):qm r a c:=⟨k.os.trans h.os,k.tape.trans h.tape,k.output.trans h.output,k.size.trans h.size,λq d=>(k.block q d).trans (h.block q d)⟩
theorem qm.below{A r:Nat}{a b c:World}(k:qm r b c)(h:Below A a b)(e:A<=r):Below A a c:=⟨k.os.trans h.os,k.tape.trans h.tape,k.output.trans h.output,by rw[k.size];exact h.size,λq d=>(k.block q (by omega)).trans (h.block q d)⟩
theorem Xg{w:World}{r:Nat}{q:Int->Int->Int}(h:ki w r q){o l:Nat}(G:o<4)(J:l<3):
  ∃(v0:Value) (st:Nat) (M:World),(Instr.mapEntry 137 (.map (some r)) (m9 o l)).run prog w = .ok (.tuple #[v0,goInt st]) M/\qm r w M/\ki M r q /\
   ∀v:Int,∃w2,(Instr.entryStore 137 (.map (some r)) (goInt st) (.int .i64 v)).run prog M = .ok () w2/\ki w2 r (qt q o l v)/\qm r w w2:=by
 obtain⟨d,c,m,h2,D,F⟩:=h;obtain⟨k,P⟩:=Nn G J;obtain⟨s1,B,z⟩:=h2;have aj:=(Qkq m).1;rcases Ar.find w P d.toList (ki.keys D) with⟨U,g⟩|⟨j,e,U,g,u⟩
 .refine⟨.int .i64 0,c,setBlock w r (.map (d.push ⟨m9 o l,.int .i64 0,c⟩) (c+1)),?_,zj _ m,⟨_,_,(heap_set m).1,stamped_push ⟨s1,B,z⟩ g,λx hx => ?_,λa b s t y=>F a b s t λx hx=>y x (by rw[Array.toList_push];simp[hx])⟩,λv => ?_⟩
  .simp[Instr.mapEntry,run_underlying Dw,MapKept.run_getObj_map m,Ar.check w false P,U,MapKept.run_setObj_map _ m,Result.andThen,setBlock]
  .rw[Array.toList_push,List.mem_append,List.mem_singleton] at hx;rcases hx with hx|rfl
   .exact D x hx
   exact⟨o,l,G,J,rfl,by rw[F o l G J g]⟩
  have f:(setBlock w r (.map (d.push ⟨m9 o l,.int .i64 0,c⟩) (c+1))).heap[r]?=some (.map (d.push ⟨m9 o l,.int .i64 0,c⟩) (c+1)):=(heap_set m).1;have ab:Stamped (d.push ⟨m9 o l,.int .i64 0,c⟩) (c+1):=stamped_push ⟨s1,B,z⟩ g;have A:(d.push ⟨m9 o l,.int .i64 0,c⟩).findIdx? (λe=>((e.born:Nat):Int)==((c:Nat):Int))=some d.size:=by
   rw[WideElems.findIdx_arr];exact WideElems.findIdx_born (l:=(d.push ⟨m9 o l,.int .i64 0,c⟩).toList) (j:=d.size) (e0:=⟨m9 o l,.int .i64 0,c⟩) ab.2.1 (by simp)
  have V:(d.push ⟨m9 o l,.int .i64 0,c⟩).modify d.size (λe=>{ e with val := .int .i64 v })=d.push ⟨m9 o l,.int .i64 v,c⟩:=by
   apply Array.ext'
   rw[Array.toList_modify,Array.toList_push,Array.toList_push,<-Array.length_toList,WideElems.modify_last]
  refine⟨setBlock (setBlock w r (.map (d.push ⟨m9 o l,.int .i64 0,c⟩) (c+1))) r (.map (d.push ⟨m9 o l,.int .i64 v,c⟩) (c+1)),?_,⟨_,_,(heap_set f).1,stamped_push ⟨s1,B,z⟩ g,λx hx => ?_,λa b s t y => ?_⟩,(zj _ m).trans (zj _ f)⟩
  .generalize setBlock w r (.map (d.push ⟨m9 o l,.int .i64 0,c⟩) (c+1))=W1 at f ⊢
   simp[Instr.entryStore,MapKept.run_getObj_map f,asInt,asIntOf,goInt,A,V,MapKept.run_setObj_map _ f,Result.andThen,setBlock]
  .rw[Array.toList_push,List.mem_append,List.mem_singleton] at hx;rcases hx with hx|rfl
   .obtain⟨a,b,s,t,H,Y⟩:=D x hx;refine⟨a,b,s,t,H,?_⟩;have:¬((a:Int)=o/\(b:Int)=l):=λe=>g x hx (by rw[H,show a=o by omega,show b=l by omega]);rw[Y];unfold qt;rw[if_neg this]
   refine⟨o,l,G,J,rfl,?_⟩;unfold qt;rw[if_pos ⟨rfl,rfl⟩]
  have n:¬((a:Int)=o/\(b:Int)=l):=λe=>y ⟨m9 o l,.int .i64 v,c⟩ (by rw[Array.toList_push];simp) (by show m9 o l=m9 a b;rw[show a=o by omega,show b=l by omega]);unfold qt;rw[if_neg n];exact F a b s t λx hx=>y x (by rw[Array.toList_push];simp[hx])
 have hj:d[j]?=some e:=by simpa using g
 have L:d.modify j (λe=>{ e with key:=m9 o l })=d:=by
  apply Array.ext'
  rw[Array.toList_modify,ChangeMaps.modify_eq_set _ _ _ _ g];have:({ e with key:=m9 o l }:MapEntry)=e:=by rw[<-u]
  rw[this];exact WideElems.set_self _ _ _ g
 have f:(setBlock w r (.map d c)).heap[r]?=some (.map d c):=(heap_set m).1;refine⟨e.val,e.born,setBlock w r (.map d c),?_,zj _ m,⟨d,c,f,⟨s1,B,z⟩,D,F⟩,λv => ?_⟩
 .simp[Instr.mapEntry,run_underlying Dw,MapKept.run_getObj_map m,Ar.check w false P,U,hj,u,Ar.stays w P,L,MapKept.run_setObj_map _ m,Result.andThen,setBlock]
 have A:d.findIdx? (λx=>((x.born:Nat):Int)==((e.born:Nat):Int))=some j:=by
  rw[WideElems.findIdx_arr];exact WideElems.findIdx_born B g
 have W:(d.modify j (λe=>{ e with val := .int .i64 v })).toList=d.toList.set j { e with val := .int .i64 v }:=by
  rw[Array.toList_modify,ChangeMaps.modify_eq_set _ _ _ _ g]
 have ad:∀x,x∈(d.modify j (λe=>{ e with val := .int .i64 v })).toList->x={ e with val := .int .i64 v }\/x∈d.toList/\x.key≠m9 o l:=λx hx=>by
  rw[W] at hx;obtain⟨i,hi,hx⟩:=List.mem_iff_getElem.1 hx;rw[List.getElem_set] at hx;by_cases p:j=i
  .rw[if_pos p] at hx;exact Or.inl hx.symm
  rw[if_neg p] at hx;have K:i<d.toList.length:=by rw[List.length_set] at hi;exact hi
  have S:j<d.toList.length:=(List.getElem?_eq_some_iff.1 g).1;refine Or.inr ⟨by rw[<-hx];exact List.getElem_mem K,λE => ?_⟩;have ej:d.toList[j]=e:=(List.getElem?_eq_some_iff.1 g).2;rcases Nat.lt_or_gt_of_ne p with X|X
  .exact(List.pairwise_iff_getElem.1 (List.pairwise_map.1 z)) j i S K X (by rw[ej,u,hx,E])
  exact(List.pairwise_iff_getElem.1 (List.pairwise_map.1 z)) i j K S X (by rw[ej,u,hx,E])
 obtain⟨o',l',-,-,H,ai⟩:=D e (List.mem_of_getElem? g);have aa:({ e with val := .int .i64 v }:MapEntry)∈(d.modify j (λe=>{ e with val := .int .i64 v })).toList:=by
  rw[W];exact List.mem_iff_getElem.2 ⟨j,by rw[List.length_set];exact(List.getElem?_eq_some_iff.1 g).1,by simp⟩
 refine⟨setBlock (setBlock w r (.map d c)) r (.map (d.modify j (λe=>{ e with val := .int .i64 v })) c),?_,⟨_,_,(heap_set f).1,stamped_modify ⟨s1,B,z⟩ j _ (λ_ _=>rfl) (λ_ _ _=>rfl),λx hx => ?_,λa b s t y => ?_⟩,(zj _ m).trans (zj _ f)⟩
 .generalize setBlock w r (.map d c)=W1 at f ⊢
  simp[Instr.entryStore,MapKept.run_getObj_map f,asInt,asIntOf,goInt,A,MapKept.run_setObj_map _ f,Result.andThen,setBlock]
 .rcases ad x hx with rfl|⟨hx,n⟩
  .refine⟨o,l,G,J,u,?_⟩;unfold qt;rw[if_pos ⟨rfl,rfl⟩]
  obtain⟨a,b,s,t,Q,Y⟩:=D x hx;refine⟨a,b,s,t,Q,?_⟩;have:¬((a:Int)=o/\(b:Int)=l):=λe=>n (by rw[Q,show a=o by omega,show b=l by omega]);rw[Y];unfold qt;rw[if_neg this]
 have n:¬((a:Int)=o/\(b:Int)=l):=λe'=>y _ aa (by show e.key=_;rw[u,show a=o by omega,show b=l by omega]);unfold qt;rw[if_neg n];refine F a b s t λx hx E => ?_;obtain⟨i,hi,T⟩:=List.mem_iff_getElem.1 hx;by_cases p:j=i
 .subst p;have:x=e:=by rw[<-T];exact(List.getElem?_eq_some_iff.1 g).2
  rw[this,u] at E;obtain⟨rfl,rfl⟩:=Rc E;exact n ⟨rfl,rfl⟩
 exact y x (by
  rw[W];exact List.mem_iff_getElem.2 ⟨i,by rw[List.length_set];exact hi,by rw[List.getElem_set_ne p];exact T⟩) E
end Go.Proofs.YtbcacebifpagpagGreat
namespace Go.Proofs.YtbcacebifpagpagGreat
open _root_.Go.Proofs.Tryz
open Go.RowKit Go.Shelf Go.Sort
def nu(g:Nat)(w w':World):Prop:=ie g w w'/\∀(cur:Array Value) (e:TypeId),w.heap[g]?=some (.cells cur e (0,0))->∃cur',w'.heap[g]?=some (.cells cur' e (0,0))/\cur'.size=cur.size
theorem nu.refl(g:Nat)(w:World):nu g w w:=⟨ie.refl g w,λcur e h=>⟨cur,h,rfl⟩⟩
theorem nu.below{g:Nat}{w a d:World}(h:nu g w a)(b:Below a.heap.size a d):nu g w d:=⟨h.1.below b,λcur e hc=>by
 obtain⟨f,c,i⟩:=h.2 cur e hc;exact⟨f,(b.block g (Qkq c).1).trans c,i⟩⟩
theorem nu.cells{g:Nat}{w:World}(b:List Value)(o:Nat)(a:World)(h:nu g w a):nu g w (a.setCells g o b):=⟨ie.cells b o a h.1,λcur e hc=>by
 obtain⟨f,c,i⟩:=h.2 cur e hc;obtain⟨c2,d,j⟩:=Fm (m:=cur.size) b o a ⟨f,c,i⟩;exact⟨c2,d,j⟩⟩
theorem nu.set{g:Nat}{w a:World}(h:nu g w a)(j:Nat)(u:Value):nu g w (a.setCell ⟨g,j,none⟩ u):=nu.cells [u] j a h
theorem nu.set4{g:Nat}{w a:World}(h:nu g w a)(i:Nat)(x:Hd):nu g w (Go.Proofs.YtbcacebifpagpagGreat.set4 a g i x):=by
 unfold Go.Proofs.YtbcacebifpagpagGreat.set4;exact(((h.set _ _).set _ _).set _ _).set _ _
theorem Z7(f:Nat)(caps:Array Value)(bad:Hd->Bool)(A:Nat)(a:Option Addr)(n c:Nat)(w:World)(J:A<=w.heap.size)(L:n<=c)(hc:c<=maxLen)(z:Nat->Hd)(D:jb w a n z)
  (P:∀args w,(callFunc f args).run prog w = .ok (.enter f args) w)
  (K:Hid (∀(x:Hd) d,Below A w d->Calls prog f (#[x.val]++caps) d λe s=>e = .returned (.bool (bad x))/\Below d.heap.size d s)) :
  Calls prog 134 #[.slice a n c,.func (.func f) #[] caps] w λe s=>((e = .returned (.int .i64 (-1))/\∀j,j<n->bad (z j)=false)\/∃k,k<n/\e = .returned (.int .i64 (k:Nat))/\bad (z k)=true/\∀j,j<k->bad (z j)=false)/\Below w.heap.size w s:=by
 unfold maxLen at hc;go_enter func134,ntmps134;go_wp2_with fail
 go_loopw [8] (λi d=>∃k:Nat,k<=n/\i = .int .i64 k/\Hid (∀j,j<k->bad (z j)=false)/\Below w.heap.size w d) (λi _=>n-(intOf i).toNat)
 case atStart=>exact⟨0,Qxz _,rfl,λj m=>absurd m (Qzq _),Below.refl _ _⟩
 obtain⟨k,M,rfl,p,g⟩:=hrel;by_cases q:k<n;rotate_left
 .go_wp2_with fail;go_ret;have B:k=n:=by omega
  subst B;exact⟨Or.inl ⟨rfl,p.out⟩,g⟩
 obtain⟨b,o,rfl,_,y,u,t,E⟩:=(D.below g) k q;clear D;have G:Hid (∀j,j<k+1->bad (z k)=false->bad (z j)=false):=λj m h=>by
  by_cases H:j=k
  .rw[H];exact h
  exact p.out j (by omega)
 go_wp2_with fail;refine(K.out (z k) wr (g.mono J)).mono ?_;rintro e d ⟨rfl,F⟩;have r:=g.trans (F.mono g.size);cases l:bad (z k)
 .have v:Hid (∀j,j<k+1->bad (z j)=false):=λj m=>G.out j m l;clear G p;go_wp2_with fail;go_roundw
  case rel=>exact⟨k+1,by omega,by go_num,v,r⟩
  case measure=>simp[intOf];omega
 go_wp2_with fail;go_ret;exact⟨Or.inr ⟨k,q,rfl,l,p.out⟩,r⟩
def I6(g:Nat)(bad:Hd->Bool)(xs:List Hd)(k:Nat)(wk:World):Prop:=∃c:Nat->Hd,Blk wk g 63 (xs.length*4) (hc c)/\(∀q,q<(iu bad xs k).length->c q=(iu bad xs k).getD q hd0)/\∀q,k<=q->q<xs.length->c q=xs.getD q hd0
theorem Vt(f:Nat)(caps:Array Value)(bad:Hd->Bool)(A g cap:Nat)(a:List Hd)(w:World)(hA:A<=g)(K:A<=w.heap.size)(hn:a.length<=cap)(aa:cap<=maxLen)(hb:Blk w g 63 (a.length*4) (hc λj=>a.getD j hd0))
  (eg:∀args w,(callFunc f args).run prog w = .ok (.enter f args) w)
  (hf:Hid (∀(x:Hd) M,Below A w M->Calls prog f (#[x.val]++caps) M λe w'=>e = .returned (.bool (bad x))/\Below M.heap.size M w')) :
  Calls prog 151 #[.slice (some ⟨g,0,none⟩) a.length cap,.func (.func f) #[] caps] w λe w'=>e = .returned (.slice (some ⟨g,0,none⟩) (a.filter (λx => !bad x)).length cap)/\Blk w' g 63 ((a.filter (λx => !bad x)).length*4) (hc λj=>(a.filter (λx => !bad x)).getD j hd0)/\Below A w w'/\nu g w w':=by
 have ak:=aa;unfold maxLen at aa;have ab:=hid hb;have hz:jb w (some ⟨g,0,none⟩) a.length (λj=>a.getD j hd0):=hb.hds;clear hb;go_enter func151,ntmps151;go_wp2_with fail;refine(Z7 f caps bad A _ _ _ w K hn ak _ hz eg hf).mono ?_;rintro e M ⟨h,t⟩;clear hz;have ah:=t.mono K;rcases h with⟨rfl,D⟩|⟨P,a3,rfl,Y,D⟩
 .have U:a.filter (λx => !bad x)=a:=by
   have:=Ag (bad:=bad) (Nat.le_refl a.length) D;rw[D0,List.take_length] at this;exact this
  have HF:=hid U;clear U D;go_wp2_with fail;go_ret;rw[HF.out];exact⟨rfl,ab.out.below t,ah,(nu.refl g w).below t⟩
 have ae:iu bad a (P+1)=a.take P:=by rw[Ah a3,Ag (by omega) D,Y];simp
 have T:(iu bad a (P+1)).length=P:=by rw[ae,List.length_take];omega
 have H0:Hid (I6 g bad a (P+1) M):=⟨_,ab.out.below t,λq L=>by
  rw[T] at L;rw[ae];simp only[List.getD,List.getElem?_take,if_pos L],λq _ _=>rfl⟩
 have ac:=hid T;clear ae T Y D ab;go_wp2_with fail
 go_loopw [5,6] (λi j wk=>∃k:Nat,k<=a.length/\j = .int .i64 k/\i = .int .i64 ((iu bad a k).length:Nat)/\(iu bad a k).length<k/\Hid (I6 g bad a k wk)/\Below A w wk/\Hid (nu g w wk)) (λ_ j _=>a.length-(intOf j).toNat)
 case atStart=>exact⟨P+1,by omega,by go_num,by rw[ac.out],by rw[ac.out];omega,H0,ah,(nu.refl g w).below t⟩
 clear H0 ac ah t;obtain⟨k,hk,rfl,rfl,B,HD,hB,r⟩:=hrel;by_cases af:k<a.length;rotate_left
 .have a0:k=a.length:=by omega
  subst a0;obtain⟨c,d,p,E⟩:=HD.out;rw[D0] at B p ⊢;obtain⟨I,G⟩:∃I,(a.filter (λx => !bad x)).length=I:=⟨_,rfl⟩;have HI:=hid G;rw[G] at B p ⊢;clear G;obtain⟨N,hN⟩:∃N,a.length=N:=⟨_,rfl⟩;rw[hN] at B hn d ⊢;clear hN E af hk HD;have bn:¬cap=I:=by omega
  have bo:∀ty,(Builtin.clear_ #[29] ty #[.slice (some ⟨g,I*4,none⟩) (N-I) (cap-I)]).run prog wr = .ok (.tuple #[]) (wr.setCells g (I*4) (List.replicate ((N-I)*4) (.int .i64 0))):=λty =>
   J5 wr ty g (I*4) (N-I) (cap-I) (by omega) (λj hj=>by rw[d.cell (by omega)];rfl) (λj _=>d.frozen _)
  have aq:Hid (Blk (wr.setCells g (I*4) (List.replicate ((N-I)*4) (.int .i64 0))) g 63 (I*4) (hc λj=>(a.filter (λx => !bad x)).getD j hd0)/\Below A w (wr.setCells g (I*4) (List.replicate ((N-I)*4) (.int .i64 0)))/\nu g w (wr.setCells g (I*4) (List.replicate ((N-I)*4) (.int .i64 0)))):=
   ⟨Blk.setCells _ _ _ ((d.less (by omega)).congr λj hj=>by unfold hc;rw[p (j/4) (by omega)]) nlr,x9 hA _ _ _ hB,r.out.cells _ _ _⟩
  clear d p;go_wp2_with fail;go_ret;rw[HI.out];exact⟨rfl,aq.out⟩
 obtain⟨c,d,p,E⟩:=HD.out;have s:=qa3 d p E;have HS:Hid (iu bad a (k+1)=iu bad a k++if bad (a.getD k hd0) then [] else [a.getD k hd0]):=Ah af;obtain⟨X,hX⟩:∃X,a.getD k hd0=X:=⟨_,rfl⟩;have an:=hid hX;have ao:c k=X:=by rw[E k nlr af,hX]
 have Q:=Pz c k;rw[ao] at Q;have z0:wr.cell? ⟨g,k*4,none⟩=some (.int .i64 X.o):=(d.cell (by omega)).trans (by rw[Q.1]);have z1:wr.cell? ⟨g,k*4+1,none⟩=some (.int .i64 X.l):=(d.cell (by omega)).trans (by rw[Q.2.1]);have z2:wr.cell? ⟨g,k*4+2,none⟩=some (.int .i64 X.b):=(d.cell (by omega)).trans (by rw[Q.2.2.1]);have z3:wr.cell? ⟨g,k*4+3,none⟩=some (.int .i64 X.n):=(d.cell (by omega)).trans (by rw[Q.2.2.2]);have zl:=d.lt;clear d p E HD hX ao Q;obtain⟨I,G⟩:∃I,(iu bad a k).length=I:=⟨_,rfl⟩;have v:=hid G;rw[G] at B ⊢;clear G;obtain⟨W,hW,J,KX⟩:∃W,wr.alloc (.cells #[.int .i64 X.o,.int .i64 X.l,.int .i64 X.b,.int .i64 X.n] 63)=W/\Below wr.heap.size wr W/\Blk W wr.heap.size 63 4 (λj=>(#[.int .i64 X.o,.int .i64 X.l,.int .i64 X.b,.int .i64 X.n]:Array Value).getD j default):=⟨_,rfl,brf.alloc nlr _,Blk.mk' rfl rfl⟩;have HW:Hid (wr.alloc (.cells #[.int .i64 X.o,.int .i64 X.l,.int .i64 X.b,.int .i64 X.n] 63)=W):=hW;have H:=hB.trans (J.mono (Qzx K hB.size));have s:Hid (Blk W g 63 (a.length*4) (hc c)/\(∀q,q<(iu bad a k).length->c q=(iu bad a k).getD q hd0)/\∀q,k<=q->q<a.length->c q=a.getD q hd0):=⟨s.out.1.below J,s.out.2⟩;have r:Hid (nu g w W):=r.out.below J;clear hW J;go_wp2_with fail;rw[HW.out];refine(hf.out X W H).mono ?_;rintro e z ⟨rfl,F⟩;have ap:=H.trans (F.mono (Qzx K H.size));have r:Hid (nu g w z):=r.out.below F;have m:=s.out.1.below F;have u:=KX.below F;have xl:=u.lt;have x0:z.cell? ⟨wr.heap.size,0,none⟩=some (.int .i64 X.o):=u.k 0;have x1:z.cell? ⟨wr.heap.size,1,none⟩=some (.int .i64 X.l):=u.k 1;have x2:z.cell? ⟨wr.heap.size,2,none⟩=some (.int .i64 X.b):=u.k 2;have x3:z.cell? ⟨wr.heap.size,3,none⟩=some (.int .i64 X.n):=u.k 3;clear z0 z1 z2 z3 zl KX u HW hB H F
 generalize wr.heap.size=BX at *
 cases am:bad X;rotate_left
 .have y:Hid (I6 g bad a (k+1) z/\(iu bad a (k+1)).length=I):=by
   have S:iu bad a (k+1)=iu bad a k:=by rw[HS.out,an.out,am];simp
   rw[S];exact⟨⟨c,m,by rw[S];exact s.out.2.1,λq L ag=>s.out.2.2 q (by omega) ag⟩,v.out⟩
  clear m s HS;go_wp2_with fail;go_roundw
  case rel=>exact⟨_,_,_,_,_,_,_,_,_,_,_,_,_,_,_,_,_,_,_,_,_,_,_,⟨k+1,by omega,by go_num,by rw[y.out.2],by rw[y.out.2];omega,y.out.1,ap,r⟩,rfl⟩
  case measure=>simp[intOf];omega
 have y0:=m.cell (j:=I*4) (by omega);have y1:=m.cell (j:=I*4+1) (by omega);have y2:=m.cell (j:=I*4+2) (by omega);have y3:=m.cell (j:=I*4+3) (by omega);have f0:=m.frozen (I*4);have f1:=m.frozen (I*4+1);have f2:=m.frozen (I*4+2);have f3:=m.frozen (I*4+3);have yl:=m.lt
 generalize hc c (I*4)=V0 at y0
 generalize hc c (I*4+1)=V1 at y1
 generalize hc c (I*4+2)=V2 at y2
 generalize hc c (I*4+3)=V3 at y3
 have KB:=m.set4 I X;have y:Hid (I6 g bad a (k+1) (set4 z g I X)/\Below A w (set4 z g I X)/\(iu bad a (k+1)).length=I+1/\nu g w (set4 z g I X)):=by
  have S:iu bad a (k+1)=iu bad a k++[X]:=by rw[HS.out,an.out,am];rfl
  have e2:(iu bad a (k+1)).length=I+1:=by rw[S,List.length_append,v.out];rfl
  refine⟨⟨_,KB,λq L => ?_,λq L ag => ?_⟩,Lp hA ap I X,e2,r.out.set4 I X⟩
  .rw[e2] at L;show(if q=I then X else c q)=_;rw[S];by_cases V:q=I
   .rw[if_pos V];simp only[List.getD];rw[List.getElem?_append_right (by rw[v.out];omega),v.out,V];simp
   rw[if_neg V,s.out.2.1 q (by rw[v.out];omega)];simp only[List.getD];rw[List.getElem?_append_left (by rw[v.out];omega)]
  show(if q=I then X else c q)=_;rw[if_neg (by omega),s.out.2.2 q (by omega) ag]
 clear m KB s HS;go_wp2_with fail;go_roundw
 case rel=>exact⟨_,_,_,_,_,_,_,_,_,_,_,_,_,_,_,_,_,_,_,_,_,_,_,⟨k+1,by omega,by go_num,by rw[y.out.2.2.1];go_num,by rw[y.out.2.2.1];omega,y.out.1,y.out.2.1,y.out.2.2.2⟩,rfl⟩
 case measure=>simp[intOf];omega
theorem Vu(f:Nat)(caps:Array Value)(bad:Hd->Bool)(a:Option Addr)(cap:Nat)(w:World)(c:cap<=maxLen)
  (m:∀args w,(callFunc f args).run prog w = .ok (.enter f args) w)
  (l:Hid (∀(x:Hd) b,Below w.heap.size w b->Calls prog f (#[x.val]++caps) b λe g=>e = .returned (.bool (bad x))/\Below b.heap.size b g)) :
  Calls prog 151 #[.slice a (0:Nat) cap,.func (.func f) #[] caps] w λe g=>e = .returned (.slice a (0:Nat) cap)/\Below w.heap.size w g:=by
 have d:=c;unfold maxLen at c;go_enter func151,ntmps151;go_wp2_with fail;refine(Z7 f caps bad w.heap.size a 0 cap w nlr (Qxz _) d (λ_=>hd0) (λi hi=>absurd hi (Qzq _)) m l).mono ?_;rintro e b ⟨h,j⟩;rcases h with⟨rfl,-⟩|⟨n,k,-⟩
 .go_wp2_with fail;go_ret;exact⟨rfl,j⟩
 exact absurd k (Qzq _)
theorem Oy{w a:World}(c:Below w.heap.size w a):KeepsOthers w a:=⟨c.size,λk o b _=>(c.block k (Qkq b).1).trans b⟩
theorem Oz{w b:World}{g n:Nat}{t:TypeId}{f:Nat->Value}(i:Blk w g t n f)(c:ie g w b):KeepsOthers w b:=⟨c.1,λk o a h=>(c.2 k (Qkq a).1 λe=>by
 obtain⟨cur,d,_⟩:=i;rw[e,d] at a;cases a;cases h).trans a⟩
theorem Vv(f:Nat)(caps:Array Value)(bad:Hd->Bool)(A:Nat)(s:St)(w:World)(l:A<=w.heap.size)(u:ai A w s)
  (L:∀args w,(callFunc f args).run prog w = .ok (.enter f args) w)
  (K:∀(x:Hd) d,Below A w d->Calls prog f (#[x.val]++caps) d λe k=>e = .returned (.bool (bad x))/\Below d.heap.size d k) :
  Calls prog 97 #[.slice s.hs.a s.hs.n s.hs.c,.func (.func f) #[] caps] w λe k=>e = .returned (.slice (dx s.hs bad).a (dx s.hs bad).n (dx s.hs bad).c)/\ai A k (withHolds s (dx s.hs bad))/\Below A w k/\(∀q t m g,t≠61->Blk w q t m g->Blk k q t m g)/\KeepsOthers w k:=by
 obtain⟨D,o,F,M⟩:=u.hs;by_cases P:s.hs.n=0
 .have hd:(dx s.hs bad).n=0:=by have:=yy s.hs bad;omega
  rw[P,hd];refine(P2 f caps bad s.hs.a s.hs.c w o L (λx d b=>K x d (b.mono l))).mono ?_;rintro e d ⟨rfl,b⟩;exact⟨rfl,(u.below b).withHolds ⟨by rw[hd];exact Qxz _,o,F,λh=>absurd h (by omega)⟩,b.mono l,λq t m g _ B=>B.below b,Oy b⟩
 obtain⟨g,v,H,B⟩:=M (by omega);have i:Blk w g 61 ((ii s.hs).length*4) (hc λj=>(ii s.hs).getD j hd0):=by
  rw[mt];refine B.congr λq r => ?_;rw[uu r];unfold hc;dsimp only;rw[Kk (by omega)]
 have G:=P1 f caps bad A g s.hs.c (ii s.hs) w H l (by rw[mt];exact D) o i L K;rw[mt] at G;rw[v];refine G.mono ?_;rintro e d ⟨rfl,E,b,y⟩;have Q:=yy s.hs bad;exact⟨by show _=Ending.returned (.slice s.hs.a _ _);rw[v];rfl,u.keepG i y ⟨Qzx Q D,o,F,λ_=>⟨g,v,H,E.congr λq r=>(uu (z:=(dx s.hs bad).z) r).symm⟩⟩,b,λq t m f' J p=>y.blk p (Blk.ne2 p i J),Oz i y⟩
theorem fo.keepMv{A g:Nat}{w j:World}{c:Nat}{a:Option Addr}(h:fo A w 63 4 a c)(K:nu g w j):fo A j 63 4 a c:=by
 rcases h with m|⟨q,cur,k,i,b,d⟩
 .exact Or.inl m
 by_cases e:q=g
 .subst e;obtain⟨f,l,n⟩:=K.2 cur _ b;exact Or.inr ⟨q,f,k,i,l,by rw[n];exact d⟩
 exact Or.inr ⟨q,cur,k,i,(K.1.2 q (Qkq b).1 e).trans b,d⟩
theorem Vw(f:Nat)(caps:Array Value)(bad:Hd->Bool)(A:Nat)(s:St)(w:World)(l:A<=w.heap.size)(o:ai A w s)
  (L:∀args w,(callFunc f args).run prog w = .ok (.enter f args) w)
  (K:∀(x:Hd) d,Below A w d->Calls prog f (#[x.val]++caps) d λe k=>e = .returned (.bool (bad x))/\Below d.heap.size d k) :
  Calls prog 151 #[.slice s.ms.a s.ms.n s.ms.c,.func (.func f) #[] caps] w λe k=>e = .returned (.slice (dx s.ms bad).a (dx s.ms bad).n (dx s.ms bad).c)/\ai A k (withMoves s (dx s.ms bad))/\Below A w k/\(∀q t m g,t≠63->Blk w q t m g->Blk k q t m g)/\KeepsOthers w k:=by
 obtain⟨D,r,F,M⟩:=o.ms;by_cases P:s.ms.n=0
 .have hd:(dx s.ms bad).n=0:=by have:=yy s.ms bad;omega
  rw[P,hd];refine(Vu f caps bad s.ms.a s.ms.c w r L (λx d b=>K x d (b.mono l))).mono ?_;rintro e d ⟨rfl,b⟩;have O:=o.below b;exact⟨rfl,⟨O.on,O.rows,O.rapart,O.os,O.hs,⟨by show(dx s.ms bad).n<=_;rw[hd];exact Qxz _,r,F,λh=>absurd (show 0<(dx s.ms bad).n from h) (by omega)⟩,O.msr,O.si,O.so,O.sf,O.aio,O.aif,O.aof,O.ari⟩,b.mono l,λq t m g _ B=>B.below b,Oy b⟩
 obtain⟨g,y,H,B⟩:=M (by omega);have i:Blk w g 63 ((ii s.ms).length*4) (hc λj=>(ii s.ms).getD j hd0):=by
  rw[mt];refine B.congr λq v => ?_;rw[uu v];unfold hc;dsimp only;rw[Kk (by omega)]
 have G:=Vt f caps bad A g s.ms.c (ii s.ms) w H l (by rw[mt];exact D) r i L K;rw[mt] at G;rw[y];refine G.mono ?_;rintro e d ⟨rfl,E,b,p⟩;have Q:=yy s.ms bad;exact⟨by show _=Ending.returned (.slice s.ms.a _ _);rw[y];rfl,o.keepM i p.1 ⟨Qzx Q D,r,F,λ_=>⟨g,y,H,E.congr λq v=>(uu (z:=(dx s.ms bad).z) v).symm⟩⟩ (o.msr.keepMv p),b,λq t m f' J u=>p.1.blk u (Blk.ne2 u i J),Oz i p.1⟩
def abk(x:St)(b g:Int)(r:Nat)(j:Nat):Value:=(#[.slice x.on.a x.on.n x.on.c,.slice x.os.a x.os.n x.os.c,.slice x.hs.a x.hs.n x.hs.c,.slice x.ms.a x.ms.n x.ms.c,.slice x.si.a x.si.n x.si.c,.slice x.so.a x.so.n x.so.c,.slice x.sf.a x.sf.n x.sf.c,.int .i64 b,.int .i64 g,.map (some r)]:Array Value).getD j default
theorem ai.boxC{A:Nat}{w:World}{s:St}{q n:Nat}{f:Nat->Value}(h:ai A w s)(b:Blk w q 139 n f)(j:Nat)(u:Value):ai A (w.setCell ⟨q,j,none⟩ u) s:=by
 refine⟨?_,λi hi=>(h.rows i hi).other b (by decide) j u,h.rapart,h.os.other b (by decide) (by decide) j u,h.hs.other b (by decide) j u,h.ms.other b (by decide) j u,h.msr.set q j u,h.si.other b (by decide) j u,h.so.other b (by decide) j u,h.sf.other b (by decide) j u,h.aio,h.aif,h.aof,h.ari⟩;obtain⟨g,k,e,d,l,c⟩:=h.on;exact⟨g,k,e,d,l,c.other (a:=⟨q,j,none⟩) (Blk.ne2 c b (by decide)) u⟩
theorem ki.keeps{w a:World}{r:Nat}{q:Int->Int->Int}(h:ki w r q)(k:KeepsOthers w a):ki a r q:=by
 obtain⟨b,c,d,e⟩:=h;exact⟨b,c,k.same r _ d rfl,e⟩
theorem Blk.keepR{r:Nat}{w b:World}{g:Nat}{t:TypeId}{n:Nat}{f:Nat->Value}{q:Int->Int->Int}(h:Blk w g t n f)(m:ki w r q)(k:qm r w b):Blk b g t n f:=by
 obtain⟨cur,a,i⟩:=h;refine Blk.same ⟨cur,a,i⟩ (k.block g λe => ?_);obtain⟨j,c,d,-⟩:=m;rw[e,d] at a;cases a
theorem qm.ck{r:Nat}{w a:World}{q:Int->Int->Int}(m:ki w r q)(k:qm r w a):ji w a:=⟨by rw[k.size];exact Nat.le_refl _,λg cur e z b=>k.block g λf=>by
 obtain⟨h,c,d,-⟩:=m;rw[f,d] at b;cases b⟩
structure gu(A BC r:Nat)(W0:World)(x:St)(b g:Int)(q:Int->Int->Int)(wk:World):Prop where
 own:ai A wk x
 box:Blk wk BC 139 10 (abk x b g r)
 map:ki wk r q
 bel:Below W0.heap.size W0 wk
 le:A<=wk.heap.size
 w0:W0.heap.size<=A
 bc:A<=BC
 ra:A<=r
section
variable {A BC r:Nat} {W0 wk wj:World} {x:St} {b g:Int} {q:Int->Int->Int}
theorem gu.below(h:gu A BC r W0 x b g q wk)(a:Below wk.heap.size wk wj):gu A BC r W0 x b g q wj :=
 ⟨ai.below h.own a,h.box.below a,h.map.below a,h.bel.trans (a.mono h.bel.size),Qzx h.le a.size,h.w0,h.bc,h.ra⟩
theorem Blk.noMap{w:World}{g:Nat}{t:TypeId}{n:Nat}{f:Nat->Value}(h:Blk w g t n f){r:Nat}{q:Int->Int->Int}(m:ki w r q):r≠g:=λe=>by
 obtain⟨cur,b,i⟩:=h;obtain⟨d,c,a,-⟩:=m;rw[e,b] at a;cases a
def Bn(h:Hs)(i:Nat)(d:Int):Hs:=⟨h.a,h.n,h.c,gy h.z i d⟩
theorem Wz{h:Hs}{i:Nat}{d:Int}(q:Nat)(a:q<h.n*4):(if q=i*4+3 then Value.int .i64 ((h.z i).n-d) else(ax h.n h.z).getD q default)=(ax h.n (gy h.z i d)).getD q default:=by
 rw[Mr (h:=h) (j:=i) (c:=3) (v:=(h.z i).n-d) (by decide) q a];have e:(yv h i 3 ((h.z i).n-d)).z=gy h.z i d:=by
  funext k
  show(if k=i then Gn (h.z k) 3 ((h.z i).n-d) else h.z k)=if k=i then iz (h.z k) d else h.z k;by_cases c:k=i
  .rw[if_pos c,if_pos c,c];rfl
  rw[if_neg c,if_neg c]
 rw[e]
theorem cy.less{A:Nat}{t:TypeId}{w:World}{h:Hs}(k:cy A t w h){i G:Nat}(hi:i<h.n)(c:h.a=some ⟨G,0,none⟩)(d:Int):cy A t (w.setCell ⟨G,i*4+3,none⟩ (.int .i64 ((h.z i).n-d))) (Bn h i d):=by
 obtain⟨f,o,m,g⟩:=k;refine⟨f,o,m,λp => ?_⟩;obtain⟨r,b,e,j⟩:=g (by omega);rw[c] at b;simp only[Qkx,Qkz,and_true] at b;subst b;exact⟨G,c,e,(j.set (i*4+3) _).congr λq l=>Wz q l⟩
theorem gu.moveN(h:gu A BC r W0 x b g q wk){i G:Nat}(hi:i<x.ms.n)(f:x.ms.a=some ⟨G,0,none⟩)(d:Int):gu A BC r W0 (withMoves x (Bn x.ms i d)) b g q (wk.setCell ⟨G,i*4+3,none⟩ (.int .i64 ((x.ms.z i).n-d))):=by
 have k:=h.own.ms;obtain⟨o,t,m,j⟩:=h.own.ms;obtain⟨s,c,l,e⟩:=j (by omega);rw[f] at c;simp only[Qkx,Qkz,and_true] at c;subst c;refine⟨h.own.keepM e ((ie.refl G wk).set _ _) (k.less hi f d) (h.own.msr.set G (i*4+3) _),h.box.other (a:=⟨G,i*4+3,none⟩) (Blk.ne2 h.box e (by decide)) _,h.map.set (e.noMap h.map) _,h.bel.setCell (p:=⟨G,i*4+3,none⟩) (by show W0.heap.size<=G;have:=h.w0;omega) _,by have:=h.le;simpa using this,h.w0,h.bc,h.ra⟩
theorem gu.holdN(h:gu A BC r W0 x b g q wk){i G:Nat}(hi:i<x.hs.n)(f:x.hs.a=some ⟨G,0,none⟩)(d:Int):gu A BC r W0 (withHolds x (Bn x.hs i d)) b g q (wk.setCell ⟨G,i*4+3,none⟩ (.int .i64 ((x.hs.z i).n-d))):=by
 have k:=h.own.hs;obtain⟨o,t,m,j⟩:=h.own.hs;obtain⟨s,c,l,e⟩:=j (by omega);rw[f] at c;simp only[Qkx,Qkz,and_true] at c;subst c;refine⟨h.own.keepG e ((ie.refl G wk).set _ _) (k.less hi f d),h.box.other (a:=⟨G,i*4+3,none⟩) (Blk.ne2 h.box e (by decide)) _,h.map.set (e.noMap h.map) _,h.bel.setCell (p:=⟨G,i*4+3,none⟩) (by show W0.heap.size<=G;have:=h.w0;omega) _,by have:=h.le;simpa using this,h.w0,h.bc,h.ra⟩
theorem gu.back(h:gu A BC r W0 x b g q wk){o B:Nat}(d:o<x.os.n)(e:(x.os.z o).ls.a=some ⟨B,0,none⟩)(l:Nat)(v:Int):gu A BC r W0 (setLine x o l 3 v) b g q (wk.setCell ⟨B,l*4+3,none⟩ (.int .i64 v)):=by
 obtain⟨B',c,i,j,k,f⟩:=h.own.os.lines o d;rw[e] at c;simp only[Qkx,Qkz,and_true] at c;subst c;refine⟨h.own.setLine d e l 3 (by decide) v,h.box.other (a:=⟨B,l*4+3,none⟩) (Blk.ne2 h.box f (by decide)) _,h.map.set (f.noMap h.map) _,h.bel.setCell (p:=⟨B,l*4+3,none⟩) (by show W0.heap.size<=B;have:=h.w0;omega) _,by have:=h.le;simpa using this,h.w0,h.bc,h.ra⟩
theorem gu.store(h:gu A BC r W0 x b g q wk){a:Int->Int->Int}(m:ki wj r a)(k:qm r wk wj):gu A BC r W0 x b g a wj :=
 ⟨h.own.ck (k.ck h.map),h.box.keepR h.map k,m,k.below h.bel (Qzx h.w0 h.ra),by rw[k.size];exact h.le,h.w0,h.bc,h.ra⟩
theorem gu.newMoves(h:gu A BC r W0 x b g q wk){m:Hs}(k:ai A wj (withMoves x m))(f:Below A wk wj)(o:∀q t n g,t≠63->Blk wk q t n g->Blk wj q t n g)(i:KeepsOthers wk wj):gu A BC r W0 (withMoves x m) b g q (wj.setCell ⟨BC,3,none⟩ (.slice m.a m.n m.c)):=by
 have d:=o _ _ _ _ (by decide) h.box;have e:=h.map.keeps i;have b1:=h.w0;have b2:=h.bc;refine⟨k.boxC d 3 _,(d.set 3 _).congr λj l => ?_,e.set (d.noMap e) _,(h.bel.trans (f.mono h.w0)).setCell (p:=⟨BC,3,none⟩) (by show W0.heap.size<=BC;omega) _,by have:=f.size;have:=h.le;simp;omega,h.w0,h.bc,h.ra⟩
 match j,l with
 | 0,_=>rfl
 | 1,_=>rfl
 | 2,_=>rfl
 | 3,_=>rfl
 | 4,_=>rfl
 | 5,_=>rfl
 | 6,_=>rfl
 | 7,_=>rfl
 | 8,_=>rfl
 | 9,_=>rfl
theorem gu.newHolds(h:gu A BC r W0 x b g q wk){m:Hs}(k:ai A wj (withHolds x m))(f:Below A wk wj)(o:∀q t n g,t≠61->Blk wk q t n g->Blk wj q t n g)(i:KeepsOthers wk wj):gu A BC r W0 (withHolds x m) b g q (wj.setCell ⟨BC,2,none⟩ (.slice m.a m.n m.c)):=by
 have d:=o _ _ _ _ (by decide) h.box;have e:=h.map.keeps i;have b1:=h.w0;have b2:=h.bc;refine⟨k.boxC d 2 _,(d.set 2 _).congr λj l => ?_,e.set (d.noMap e) _,(h.bel.trans (f.mono h.w0)).setCell (p:=⟨BC,2,none⟩) (by show W0.heap.size<=BC;omega) _,by have:=f.size;have:=h.le;simp;omega,h.w0,h.bc,h.ra⟩
 match j,l with
 | 0,_=>rfl
 | 1,_=>rfl
 | 2,_=>rfl
 | 3,_=>rfl
 | 4,_=>rfl
 | 5,_=>rfl
 | 6,_=>rfl
 | 7,_=>rfl
 | 8,_=>rfl
 | 9,_=>rfl
theorem gu.boxed(h:gu A BC r W0 x b g q wk):BC<wk.heap.size/\wk.cell? ⟨BC,0,none⟩=some (.slice x.on.a x.on.n x.on.c)/\wk.cell? ⟨BC,1,none⟩=some (.slice x.os.a x.os.n x.os.c)/\wk.cell? ⟨BC,2,none⟩=some (.slice x.hs.a x.hs.n x.hs.c)/\wk.cell? ⟨BC,3,none⟩=some (.slice x.ms.a x.ms.n x.ms.c)/\wk.cell? ⟨BC,4,none⟩=some (.slice x.si.a x.si.n x.si.c)/\wk.cell? ⟨BC,5,none⟩=some (.slice x.so.a x.so.n x.so.c)/\wk.cell? ⟨BC,6,none⟩=some (.slice x.sf.a x.sf.n x.sf.c)/\wk.cell? ⟨BC,7,none⟩=some (.int .i64 b)/\wk.cell? ⟨BC,8,none⟩=some (.int .i64 g)/\wk.cell? ⟨BC,9,none⟩=some (.map (some r)):=
 ⟨h.box.lt,h.box.k 0,h.box.k 1,h.box.k 2,h.box.k 3,h.box.k 4,h.box.k 5,h.box.k 6,h.box.k 7,h.box.k 8,h.box.k 9⟩
end
theorem Pu(x:Hd)(w:World):
  Calls prog 152 #[x.val] w λe a=>e = .returned (.bool (ru x))/\Below w.heap.size w a:=by
 unfold Hd.val ru;go_enter func152,ntmps152;go_wp2_with fail;go_ret;exact⟨rfl,brf.alloc nlr _⟩
structure Aj(x:St)(b g:Nat)(n:Int)(i:Nat)(m:Int)(z:Nat->Hd):Prop where
 rest:lf (cq b g) i (max 0 m) z=lf (cq b g) x.ms.n (max 0 n) x.ms.z
 left:tn (cq b g) (max 0 m) (cw z i)=tn (cq b g) (max 0 n) (pg x)
 pos:∀j,j<x.ms.n->0<=(z j).n/\(z j).n<=200
 le:m<=max 0 n/\(m=n\/0<=m)
theorem Aj.miss{x:St}{b g:Nat}{n m:Int}{i:Nat}{z:Nat->Hd}(h:Aj x b g n (i+1) m z)(a:¬((z i).l=b/\(z i).o=g)):Aj x b g n i m z:=by
 have c:¬cq b g (z i)=true:=λe=>a (zh.1 e);refine⟨?_,?_,h.pos,h.le⟩
 .rw[<-h.rest];exact(if_neg c).symm
 rw[<-h.left];exact(if_neg c).symm
theorem Aj.hit{x:St}{b g:Nat}{n m:Int}{i:Nat}{z:Nat->Hd}(h:Aj x b g n (i+1) m z)(hi:i<x.ms.n)(r:0<m)(f:(z i).l=b)(k:(z i).o=g):Aj x b g n i (m-min m (z i).n) (gy z i (min m (z i).n)):=by
 have c:cq b g (z i)=true:=zh.2 ⟨f,k⟩;have p:=h.pos i hi;have e0:max 0 m=m:=by omega
 have a:max 0 (m-min m (z i).n)=m-min m (z i).n:=by omega
 refine⟨?_,?_,λj d => ?_,?_⟩
 .rw[<-h.rest,e0,a];exact(if_pos c).symm
 .rw[<-h.left,e0,a,ot (z:=gy z i (min m (z i).n)) (z':=z) λj d=>if_neg (by omega)];exact(if_pos c).symm
 .unfold gy;have q:=h.pos j d;by_cases e:j=i
  .rw[if_pos e,e];show 0<=(z i).n-min m (z i).n/\(z i).n-min m (z i).n<=200;omega
  rw[if_neg e];exact q
 have:=h.le;omega
theorem Aj.done{x:St}{b g:Nat}{n m:Int}{i:Nat}{z:Nat->Hd}(h:Aj x b g n i m z)(hi:i<=x.ms.n)(hd:i=0\/m<=0):z=lf (cq b g) x.ms.n (max 0 n) x.ms.z/\max 0 m=tn (cq b g) (max 0 n) (pg x):=by
 rcases hd with rfl|hd
 .exact⟨h.rest,h.left⟩
 have e:max 0 m=0:=by omega
 have r:=h.rest;have l:=h.left;rw[e] at r l;rw[Hv _ _ _ λj c=>(h.pos j (by omega)).1] at r;have l0:tn (cq b g) 0 (cw z i)=0:=by
  have k:=(tm (qx b g) (R:=cw z i) (m:=0) (λy a=>by obtain⟨j,c,e⟩:=v9 a;rw[<-e];exact(h.pos j (by omega)).1) (Int.le_refl _)).2;have d:=A8 (P:=cq b g) (R:=cw z i) (λy a=>by obtain⟨j,c,e⟩:=v9 a;rw[<-e];exact(h.pos j (by omega)).1);omega
 rw[e,<-l,l0];exact⟨r,rfl⟩
theorem Qq(A s r:Nat)(L:World)(x:St)(b g:Nat)(q:Int->Int->Int)(n:Int)(w:World)(h:gu A s r L x b g q w)(hm:∀j,j<x.ms.n->0<=(x.ms.z j).n/\(x.ms.z j).n<=200)(hl:x.ms.n<=8)(hn : -100000<=n/\n<=100000):
  Calls prog 107 #[.pointer (some ⟨s,0,none⟩),.int .i64 n] w λe w'=>∃v:Int,e = .returned (.int .i64 v)/\max 0 v=tn (cq b g) (max 0 n) (pg x)/\(-100000<=v/\v<=100000)/\gu A s r L (withMoves x (cp (cq b g) x.ms (max 0 n))) b g q w':=by
 have f:=hid h;have E:Hid (Aj x b g n x.ms.n n x.ms.z):=⟨rfl,rfl,hm,by omega,Or.inl rfl⟩;obtain⟨u,-,-,-,V,-,-,-,-,-,-⟩:=h.boxed;have mc:=h.own.ms.2.1;have ml:=h.own.ms.1;unfold maxLen at mc;clear h hm;go_enter func107,ntmps107;go_wp2_with fail;clear u V
 go_loopw [1,5] (λnv iv wk=>∃(i:Nat) (m:Int) (z:Nat->Hd),i<=x.ms.n/\iv = .int .i64 ((i:Int)-1)/\nv = .int .i64 m/\Hid (gu A s r L (withMoves x ⟨x.ms.a,x.ms.n,x.ms.c,z⟩) b g q wk)/\Hid (Aj x b g n i m z)) (λ_ iv _=>(intOf iv+1).toNat)
 case atStart=>exact⟨x.ms.n,n,x.ms.z,Nat.le_refl _,rfl,rfl,f,E⟩
 clear f E;obtain⟨i,m,z,hi,rfl,rfl,f,E⟩:=hrel;have bo:=E.out.le;by_cases hd:i=0\/m<=0
 .have HD:Hid (z=lf (cq b g) x.ms.n (max 0 n) x.ms.z/\max 0 m=tn (cq b g) (max 0 n) (pg x)):=E.out.done hi hd;obtain⟨u,-,-,-,V,-,-,-,-,-,-⟩:=f.out.boxed;have B:wr.cell? ⟨s,3,none⟩=some (.slice x.ms.a x.ms.n x.ms.c):=V;have W:Hid (Calls prog 151 #[.slice x.ms.a x.ms.n x.ms.c,.func (.func 152) #[] #[]] wr λe w'=>e = .returned (.slice x.ms.a (cp (cq b g) x.ms (max 0 n)).n x.ms.c)/\ai A w' (withMoves x (cp (cq b g) x.ms (max 0 n)))/\Below A wr w'/\(∀q t m g,t≠63->Blk wr q t m g->Blk w' q t m g)/\KeepsOthers wr w'):=by
   have hz:=HD.out.1;have hD:=Vw 152 #[] ru A (withMoves x ⟨x.ms.a,x.ms.n,x.ms.c,z⟩) wr f.out.le f.out.own (enters_of func152 (by kernel_rfl) rfl) (λy wz _=>by rw[Array.append_empty];exact Pu y wz);rw[hz] at hD;exact hD
  clear V;by_cases bp:i=0
  .have q1:¬(0:Int)<=(i:Int)-1:=by omega
   go_wp2_with fail;refine W.out.mono ?_;rintro e w2 ⟨rfl,Q,U,H,T⟩;have K:Hid (gu A s r L (withMoves x (cp (cq b g) x.ms (max 0 n))) b g q (w2.setCell ⟨s,3,none⟩ (.slice x.ms.a (cp (cq b g) x.ms (max 0 n)).n x.ms.c))):=f.out.newMoves (m:=cp (cq b g) x.ms (max 0 n)) Q U H T;have J:=H _ _ _ _ (by decide) f.out.box;have y1:=J.lt;have y2:=J.frozen 3;have y3:=J.k 3;clear Q U H T J W f E u B;go_wp2_with fail;go_ret;exact⟨m,rfl,HD.out.2,by omega,K.out⟩
  have bq:m<=0:=by omega
  have q1:(0:Int)<=(i:Int)-1:=by omega
  have q2:¬0<m:=by omega
  go_wp2_with fail;refine W.out.mono ?_;rintro e w2 ⟨rfl,Q,U,H,T⟩;have K:Hid (gu A s r L (withMoves x (cp (cq b g) x.ms (max 0 n))) b g q (w2.setCell ⟨s,3,none⟩ (.slice x.ms.a (cp (cq b g) x.ms (max 0 n)).n x.ms.c))):=f.out.newMoves (m:=cp (cq b g) x.ms (max 0 n)) Q U H T;have J:=H _ _ _ _ (by decide) f.out.box;have y1:=J.lt;have y2:=J.frozen 3;have y3:=J.k 3;clear Q U H T J W f E u B;go_wp2_with fail;go_ret;exact⟨m,rfl,HD.out.2,by omega,K.out⟩
 obtain⟨k,rfl⟩:∃k,i=k+1:=⟨i-1,by omega⟩;have hk:k<x.ms.n:=by omega
 have q1:(0:Int)<=(k:Int):=by omega
 have q2:0<m:=by omega
 have q3:(k:Int)<(x.ms.n:Int):=by omega
 have e1:(((k+1:Nat):Int)-1)=(k:Int):=by omega
 rw[e1];obtain⟨u,-,-,-,V,-,-,-,u7,u8,-⟩:=f.out.boxed;obtain⟨G,hG,br,hb⟩:=f.out.own.ms.2.2.2 (show 0<x.ms.n by omega);have HG:Hid (x.ms.a=some ⟨G,0,none⟩):=hG;have B:wr.cell? ⟨s,3,none⟩=some (.slice (some ⟨G,0,none⟩) x.ms.n x.ms.c):=by have h:=V;rw[hG] at h;exact h
 have z0:wr.cell? ⟨G,k*4,none⟩=some (.int .i64 (z k).o):=(hb.cell (j:=k*4) (by show k*4<x.ms.n*4;omega)).trans (congrArg some (qc (z:=z) (c:=0) hk (by decide)));have z1:wr.cell? ⟨G,k*4+1,none⟩=some (.int .i64 (z k).l):=(hb.cell (j:=k*4+1) (by show _<x.ms.n*4;omega)).trans (congrArg some (qc (z:=z) (c:=1) hk (by decide)));have X:wr.cell? ⟨G,k*4+3,none⟩=some (.int .i64 (z k).n):=(hb.cell (j:=k*4+3) (by show _<x.ms.n*4;omega)).trans (congrArg some (qc (z:=z) (c:=3) hk (by decide)));have Y:=hb.lt;have zp:=E.out.pos k hk;clear hb V
 generalize hZL:(z k).l=ZL at *
 generalize hZO:(z k).o=ZO at *
 have HZ:=qa2 hZL hZO;clear hZL hZO hd e1 hG;cases h1:(ZL==(b:Int))
 .have K:Hid (Aj x b g n k m z):=E.out.miss (λe=>by rw[HZ.out.1] at e;simp at h1;omega);have bb:(ZL !=(b:Int))=true:=by simp at h1 ⊢;omega
  have r3:=Qqq B;have r7:=Qqq u7;have r8:=Qqq u8;have S:=Qqq z0;have M:=Qqq z1;go_wp2_with fail;refine Qxq (by kernel_rfl) (by kernel_rfl) ?_
  repeat(go_big_quiet_step(fail))
  refine Qqz ?_;intro _ P;obtain⟨⟨p,d⟩,F⟩:=P;subst F;have au:=Qqq X p d;have aq:=Xzx Y (Qxx wr p d).size;have D:Hid (gu A s r L (withMoves x ⟨x.ms.a,x.ms.n,x.ms.c,z⟩) b g q (grow (redrawn wr p) d)):=f.out.below (Qxx wr p d);clear r3 r7 r8 S M B u7 u8 z0 z1 X f Y u
  generalize grow (redrawn wr p) d=wz at *
  go_wp2_with fail;go_roundw
  case rel=>exact⟨k,m,z,by omega,by go_num,rfl,D,K⟩
  case measure=>simp[intOf]
 have bb:(ZL !=(b:Int))=false:=by simp at h1 ⊢;omega
 cases h2:(ZO==(g:Int))
 .have K:Hid (Aj x b g n k m z):=E.out.miss (λe=>by rw[HZ.out.2] at e;simp at h2;omega);have a8:(ZO !=(g:Int))=true:=by simp at h2 ⊢;omega
  have r3:=Qqq B;have r7:=Qqq u7;have r8:=Qqq u8;have S:=Qqq z0;have M:=Qqq z1;go_wp2_with fail;refine Qxq (by kernel_rfl) (by kernel_rfl) ?_
  repeat(go_big_quiet_step(fail))
  refine Qqz ?_;intro _ P;obtain⟨⟨p,d⟩,F⟩:=P;subst F;have au:=Qqq X p d;have aq:=Xzx Y (Qxx wr p d).size;have D:Hid (gu A s r L (withMoves x ⟨x.ms.a,x.ms.n,x.ms.c,z⟩) b g q (grow (redrawn wr p) d)):=f.out.below (Qxx wr p d);clear r3 r7 r8 S M B u7 u8 z0 z1 X f Y u
  generalize grow (redrawn wr p) d=wz at *
  go_wp2_with fail;go_roundw
  case rel=>exact⟨k,m,z,by omega,by go_num,rfl,D,K⟩
  case measure=>simp[intOf]
 have a8:(ZO !=(g:Int))=false:=by simp at h2 ⊢;omega
 have K:Hid (Aj x b g n k (m-min m (z k).n) (gy z k (min m (z k).n))):=E.out.hit hk q2 (by rw[HZ.out.1];simpa using h1) (by rw[HZ.out.2];simpa using h2);have r3:=Qqq B;have r7:=Qqq u7;have r8:=Qqq u8;have S:=Qqq z0;have M:=Qqq z1;go_wp2_with fail;refine Qxq (by kernel_rfl) (by kernel_rfl) ?_
 repeat(go_big_quiet_step(fail))
 refine Qqz ?_;intro _ P;obtain⟨⟨p,d⟩,F⟩:=P;subst F;have au:=Qqq X p d;have aq:=Xzx Y (Qxx wr p d).size;have D:Hid (gu A s r L (withMoves x ⟨x.ms.a,x.ms.n,x.ms.c,z⟩) b g q (grow (redrawn wr p) d)):=f.out.below (Qxx wr p d);clear r3 r7 r8 S M B u7 u8 z0 z1 X f Y u
 generalize grow (redrawn wr p) d=wz at *
 obtain⟨bf,a7,bd,ap⟩:=D.out.own.ms;obtain⟨G',ao,ax,ar⟩:=ap (show 0<x.ms.n by omega);have eG:G=G':=by
  have e:x.ms.a=some ⟨G',0,none⟩:=ao;rw[HG.out] at e
  simpa using e
 subst eG;have fz:=ar.frozen (k*4+3);have be:Hid (gu A s r L (withMoves x ⟨x.ms.a,x.ms.n,x.ms.c,gy z k (min m (z k).n)⟩) b g q (wz.setCell ⟨G,k*4+3,none⟩ (.int .i64 ((z k).n-min m (z k).n)))):=D.out.moveN (i:=k) (G:=G) hk HG.out (min m (z k).n);clear bf a7 bd ap ao ax ar D
 generalize (z k).n=ZN at *
 go_wp2_with fail;go_roundw
 case rel=>exact⟨k,m-min m ZN,gy z k (min m ZN),by omega,by go_num,by go_num,be,K⟩
 case measure=>simp[intOf]
def wm(dn:Nat->Bool)(i j:Nat):Bool:=if j=i then true else dn j
theorem Iv(a:Nat->Bool)(i:Nat):wm a i i=true:=if_pos rfl
theorem ow{a:Nat->Bool}{i j:Nat}(h:¬j=i):wm a i j=a j:=if_neg h
theorem Xf{P:Program}{c:Array Oper}{Q:Exit->Act->World->Prop}{S:World->Prop}{T:Nat->Bool}{b:List Nat}{L:Array Bool}{a1:Act}{I:(Nat->Bool)->(Nat->Value)->World->Prop}{fuel:Nat}(hB:uo c b L=true)(hT:∀r∈b,T r=false)
  (step:∀i∈b,∀(t:Nat->Bool) (V:Nat->Value) (w:World) (K:Act->World->Prop),S w->t i=false->(∀d∈i8 c i,d∈b->t d=true)->I t V w ->
   (∀v D,S D->I (wm t i) (upd V i v) D->K ((am c b V a1).put (bu c i) v) D)->wpOp P c Q i K (am c b V a1) w)
  (done:∀(t:Nat->Bool) (V:Nat->Value) (w:World),S w->(∀j∈b,t j=true)->I t V w->nt P c Q S T fuel (ip L b) (am c b V a1) w) :
  ∀(m:Nat) (a:Array Bool) (V:Nat->Value) (w:World),(b.filter (λr => !a.getD r true)).length=m->a.size=c.size->(∀j,j ∉ b->a[j]?=L[j]?)->ni c a->S w->I (λj=>a.getD j true) V w ->
   nt P c Q S T (m+fuel) a (am c b V a1) w:=by
 simp only[uo,Xxx,decide_eq_true_eq] at hB;obtain⟨⟨⟨⟨ac,W⟩,ah⟩,a7⟩,X⟩:=hB;have k:∀r∈b,r<c.size/\L.getD r true=false:=λr F=>by
  have:=List.all_eq_true.1 ah r F
  simpa using this
 intro m
 induction m with
 | zero =>
  intro a V w B u p G hS hI;have M:∀r∈b,a.getD r true=true:=λr F=>by
   cases hq:a.getD r true
   .have:r∈b.filter (λr => !a.getD r true):=List.mem_filter.2 ⟨F,by simp[hq]⟩;rw[List.length_eq_zero_iff.1 B] at this;simp at this
   rfl
  have hl:a=ip L b:=by
   apply Array.ext_getElem?
   intro j;by_cases l:j<L.size
   .rw[Av b L j l];by_cases y:j∈b
    .rw[if_pos y];have g:=M j y;have f:j<a.size:=by omega
     simp only[Array.getD,f,dif_pos] at g;simp[f];exact g
    rw[if_neg y];exact p j y
   rw[Array.getElem?_eq_none (by omega),Array.getElem?_eq_none (by rw[zk];omega)]
  rw[Nat.zero_add];have h:=done (λj=>a.getD j true) V w hS M hI;rw[<-hl] at h;exact h
 | succ m ih =>
  intro a V w B u p G hS hI;have aa:∃r∈b,a.getD r true=false:=by
   have al:b.filter (λr => !a.getD r true)≠[]:=λe=>by rw[e] at B;simp at B
   obtain⟨x,hx⟩:=List.exists_mem_of_ne_nil _ al;have:=List.mem_filter.1 hx;exact⟨x,this.1,by simpa using this.2⟩
  have ar:∀d,L.getD d false=true->a.getD d false=true:=λd hd=>by
   by_cases z:d∈b
   .have g:=(k d z).2;have f:d<L.size:=by have:=(k d z).1;omega
    simp only[Array.getD,f,dif_pos] at g hd;rw[g] at hd;cases hd
   have g:=p d z;by_cases f:d<L.size
   .have A:d<a.size:=by omega
    simp only[Array.getD,f,A,dif_pos] at hd ⊢;simp only[Array.getElem?_eq_getElem f,Array.getElem?_eq_getElem A,Qkx] at g;rw[Array.getInternal_eq_getElem] at hd ⊢;rw[g];exact hd
   simp[Array.getD,f] at hd
  obtain⟨r0,a6,aj⟩:=xv u [] b W ar (λd hd=>by simp at hd) (λr F=>(k r F).1) aa;rw[Nat.add_right_comm];refine⟨λh0=>absurd (h0▸aj) (by simp),λi hi => ?_⟩;obtain⟨n,o,ho,ai⟩:=mem_ready.1 hi;have U:∀d∈i8 c i,a.getD d false=true:=λd hd=>by
   unfold i8 at hd;rw[ho] at hd;obtain⟨e,he,rfl⟩:=List.mem_map.1 hd;have:=List.mem_filter.1 he;exact ai e (by simpa using this.1) this.2
  have Y:∀d,a.getD d false=true->a.getD d true=true:=λd hd=>by
   by_cases f:d<a.size
   .simpa[Array.getD,f] using hd
   simp[Array.getD,f]
  have s:i∈b:=by
   cases hc:b.contains i;rotate_left
   .exact Qjz hc
   exfalso;have ax:i<c.size:=(Qkq ho).1;have az:i ∉ b:=λh=>by
    have:=List.contains_iff_mem.2 h;rw[this] at hc;cases hc
   have g:=List.all_eq_true.1 ac i (List.mem_range.2 ax);have ak:L.getD i true=false:=by
    have f:=p i az;have A:i<L.size:=by omega
    have h4:i<a.size:=by omega
    simp only[Array.getElem?_eq_getElem A,Array.getElem?_eq_getElem h4,Qkx] at f;simp only[Array.getD,A,h4,dif_pos] at n ⊢;rw[Array.getInternal_eq_getElem] at n ⊢;rw[<-f];exact n
   rw[ak,hc] at g;simp only[Bool.false_or] at g;obtain⟨q,hq,ap⟩:=aa;have h5:=List.all_eq_true.1 g q hq;have h6:=Y q (vz G _ i q (Ac hi) h5);rw[ap] at h6;cases h6
  have aw:i<a.size:=by rw[u];exact(k i s).1
  have ae:a.getD i true=false:=n;refine step i s (λj=>a.getD j true) V w _ hS ae (λd hd z=>Y d (U d hd)) hI (λv D ab aq => ?_);refine⟨λ_=>ab,?_⟩;rw[xp X s];have H:∀j,(a.setIfInBounds i true).getD j true=if j=i then true else a.getD j true:=λj=>by
   by_cases l:j=i
   .subst l;simp[Array.getD,aw]
   rw[if_neg l,getD_set_ne true (λe=>l e.symm)]
  refine ih (a.setIfInBounds i true) (upd V i v) D ?_ (by simpa using u) (λj l => ?_) (G.set hi) ab ?_
  .have E:b.Nodup:=by
    exact(List.pairwise_map.1 X).imp (λh e=>h (by rw[e]))
   have J:(b.filter (λr => !(a.setIfInBounds i true).getD r true))=(b.filter (λr => !a.getD r true)).erase i:=by
    have e2:b.filter (λr => !(a.setIfInBounds i true).getD r true)=(b.filter (λr => !a.getD r true)).filter (λr=>r !=i):=by
     rw[List.filter_filter];refine List.filter_congr λx hx => ?_;rw[H x];by_cases ay:x=i<;>simp[ay]
    rw[e2,<-List.Nodup.erase_eq_filter (E.filter _)]
   rw[J,List.length_erase_of_mem (List.mem_filter.2 ⟨s,by simp[n]⟩),B]
   rfl
  .rw[Array.getElem?_setIfInBounds,if_neg (λe:i=j=>l (by rw[<-e];exact s))];exact p j l
  have e:(λj=>(a.setIfInBounds i true).getD j true)=wm (λj=>a.getD j true) i:=funext λj=>H j;rw[e];exact aq
theorem Rq(V:Nat->Value)(i:Nat)(v:Value):upd V i v i=v:=if_pos rfl
theorem Df(V:Nat->Value){i j:Nat}(v:Value)(h:¬j=i):upd V i v j=V j:=if_neg h
theorem Pv{P:Program}{l:List Oper}{Q:Exit->Act->World->Prop}{id:Nat}{a:Act}{w:World}(b:List Nat)
  (E:P.follows .mixedOrders=true) (n:uo l.toArray b (Array.replicate l.length false)=true) (x:Kp l.toArray [] (ip (Array.replicate l.length false) b)=true) (F:b.length=l.length)
  (I:(Nat->Bool)->(Nat->Value)->World->Prop) (m:∀(c:Nat->Bool) (V:Nat->Value),(∀j∈b,c j=false)->I c V w.drew)
  (step:∀i∈b,∀(c:Nat->Bool) (V:Nat->Value) (w:World) (K:Act->World->Prop),c i=false->(∀d∈i8 l.toArray i,d∈b->c d=true)->I c V w ->
   (∀v e,I (wm c i) (upd V i v) e->K ((am l.toArray b V a).put (bu l.toArray i) v) e)->wpOp P l.toArray (NoPanic Q) i K (am l.toArray b V a) w)
  (done:∀(c:Nat->Bool) (V:Nat->Value) (w:World),(∀j∈b,c j=true)->I c V w->NoPanic Q .normal (am l.toArray b V a) w):(Code.region id l.toArray true).wp P Q a w:=by
 refine wp_region_noPanic (wp_region_any E ?_);have f:=n;simp only[uo,Xxx,decide_eq_true_eq] at f;have h:(b.filter (λr => !(Array.replicate l.length false).getD r true))=b:=by
  rw[List.filter_eq_self];intro r y;have:=List.all_eq_true.1 f.1.1.2 r y;simp only[Xxx] at this;exact this.2
 have o:∀j∈b,(Array.replicate l.length false).getD j true=false:=λj D=>by
  have:=List.all_eq_true.1 f.1.1.2 j D;simp only[Xxx] at this
  simpa using this.2
 obtain⟨g,p⟩:∃g,am l.toArray b g a=a:=⟨_,uw a b⟩;have:=Xf (P:=P) (Q:=NoPanic Q) (S:=λ_=>True) (T:=λ_=>false) (a1:=a) (fuel:=0) (I:=I) n (λ_ _=>rfl) (λi hi c V w K _ s z u B=>step i hi c V w K s z u λv e G=>B v e trivial G)
  (λc V e H hd A=>Cn [] _ _ e x (λt i q=>by simp at q) (done c V e hd A))
  b.length (Array.replicate l.length false) g w.drew (by rw[h]) f.1.2 (λ_ _=>rfl) (ni.none _ _) trivial (m _ _ o)
 rw[p] at this;have k:=Ai _ _ _ _ this;rw[F] at k
 simpa using k
end Go.Proofs.YtbcacebifpagpagGreat
