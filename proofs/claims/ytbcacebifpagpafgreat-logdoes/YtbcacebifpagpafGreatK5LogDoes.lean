/- Texts that were built one behind the other, joined; what LogDoes does not reach is left out. -/
import Derived.Test.YtbcacebifpagpafGreatK4LogDoes
import Derived.RangeFuncNested
import Derived.OwnWalkIn
import Derived.ArgAppend
import Derived.Lib.QuietBelowIn
import Derived.Sort.BigQuietIn
import Derived.Scope
import Derived.RangeFuncLeaves
import Derived.Test.YtbcacebifpagpafGreatChecked
import Derived.WideKeyEntry
import Derived.DeepKeys5
import Derived.KernelRfl
import Derived.Below
set_option maxHeartbeats 8000000
set_option maxRecDepth 100000
set_option linter.unusedVariables false
namespace Go.Proofs.YtbcacebifpagpafGreat
variable{b n g A l o i m q j R M N:Nat}{w a c d:World}{s x y:St}{r W J K:Int}{e t:TypeId}{p:Pl}{z D:Nat->Hd}{Q:Exit->Act->World->Prop}{f f':Nat->Value}{v c1 c3 c2:Value}{H O:Hs}{U:List Value}{P:Program}{V X:Int->Int->Int}{Y:Array Oper}{Z E:Hd->Bool}{h:Hd}{S:World->Prop}{a1:Act}{z' zs:Nat->Int}{L:Array Bool}
open _root_.Go.Proofs.Tryz
open Go.RowKit Go.Shelf
attribute [local go_sem] Oper.semAt_some
theorem Uy(p:Pl)(w:World)(hp:p.At w):
  Calls prog 104 #[p.val] w λe Y=>∃v,e = .returned (.tuple #[v,.int .i64 (iz p)])/\Y.ownsRow w.heap.size 3 1 v (Vq p).length ((Vq p).map (Value.int .i64))/\Below w.heap.size w Y:=by
 have leb:=hp.leb;have F:=hp.capb;have capb:=F;unfold maxLen at capb;have P:Below w.heap.size w (w.alloc (.cells #[.slice p.ab p.nb p.cb,.slice p.sa p.ns p.cs] 25)):=(Below.refl w.heap.size w).alloc nlr _;obtain⟨i1,hj,aj,ah,ae⟩:=info_parts Ep;refine(callsIn_wide (n:=5)).1 ?_;refine callsIn_of_wp_marks func104 rfl trivial ?_ rfl;simp only[Pl.val,ntmps104,List.size_toArray,List.length_cons,List.length_nil,Nat.reduceAdd,Nat.reduceSub,Array.replicate_succ,Array.replicate_zero,List.push_toArray,List.append_toArray,Xqx,Xqz];by_cases h0:iz p=0;rotate_left
 .gi_wp2_with(refine⟨trivial,?_⟩;gi_at_call 118;refine(callsIn_wide.2 (yq p _ (hp.below P))).mono ?_;rintro e z ⟨rfl,X⟩)
  rw[aah h0];exact⟨_,results_tmp2 rfl _ _ _,_,rfl,World.ownsRow_nil _ _ _ _,P.trans (X.mono (by simp))⟩
 have HC:Calls prog 118 #[p.val] (w.alloc (.cells #[.slice p.ab p.nb p.cb,.slice p.sa p.ns p.cs] 25)) λe Y=>e = .returned (.int .i64 0)/\Below (w.heap.size+1) (w.alloc (.cells #[.slice p.ab p.nb p.cb,.slice p.sa p.ns p.cs] 25)) Y:=by
  have:=yq p _ (hp.below P);rw[h0,World.size_alloc] at this;exact this
 have R:=Lt h0;have bm:=R.nb6;have H0:=hid h0;clear h0 R
 gi_wp2_with(first
  | (refine⟨trivial,?_⟩;gi_at_call 118;refine(callsIn_wide.2 HC).mono ?_;rintro e z ⟨rfl,X⟩;have a1:=X.size;have c0:z.cell? ⟨w.heap.size,0,none⟩=some (.slice p.ab p.nb p.cb):=(X.cell (p:=⟨w.heap.size,0,none⟩) (by simp)).trans (by simp);rw[World.size_alloc] at a1)
  | (gi_at_make;refine wpListIn_make_own _ rfl _ _ 23 rfl (w.heap.size+1) 3 i1 (.int .i64 0) 1 underlying23 hj aj ah .i64 .i64 _ p.nb rfl rfl rfl (by rw[ae];omega) (by unfold maxLen;omega) (by omega) ?_;intro a U J;have V:Below (w.heap.size+1) (w.alloc (.cells #[.slice p.ab p.nb p.cb,.slice p.sa p.ns p.cs] 25)) a:=X.grown J (by omega) (by intro k hk;cases hk);have E:=V.size;rw[World.size_alloc] at E;have c0:a.cell? ⟨w.heap.size,0,none⟩=some (.slice p.ab p.nb p.cb):=(V.cell (p:=⟨w.heap.size,0,none⟩) (by simp)).trans (by simp);have c1:a.cell? ⟨w.heap.size,1,none⟩=some (.slice p.sa p.ns p.cs):=(V.cell (p:=⟨w.heap.size,1,none⟩) (by simp)).trans (by simp);have bf:w.heap.size<a.heap.size:=by omega)
  | (refine⟨trivial,?_⟩;gi_at_call 64;refine(Du Fence.wide _ trivial rfl p true _).mono ?_;rintro e Y ⟨rfl,rfl⟩))
 obtain⟨t,ao,s3,bO,an,bF,cP,ai⟩:∃t,((a.alloc (.cells #[(.slice (some ⟨z.heap.size,0,none⟩) 0 p.nb)] 23)).alloc (.cells #[.slice p.ab p.nb p.cb,.slice p.sa p.ns p.cs] 25)).alloc (.cells #[.bool true] 4)=t/\t.heap.size=a.heap.size+3/\_root_.Go.Boxed t a.heap.size 23 (.slice (some ⟨z.heap.size,0,none⟩) 0 p.nb)/\t.ownsRow (w.heap.size+1) 3 1 (.slice (some ⟨z.heap.size,0,none⟩) 0 p.nb) 0 []/\_root_.Go.Boxed t (a.heap.size+1+1) 4 (.bool true)/\t.cell? ⟨a.heap.size+1,0,none⟩=some (.slice p.ab p.nb p.cb)/\Below (w.heap.size+1) (w.alloc (.cells #[.slice p.ab p.nb p.cb,.slice p.sa p.ns p.cs] 25)) t:=by
  refine⟨_,rfl,by simp,((_root_.Go.Boxed.new a 23 _).alloc _).alloc _,((U.alloc _).alloc _).alloc _,?_,?_,((V.alloc E _).alloc (by simp;omega) _).alloc (by simp;omega) _⟩
  .have:=_root_.Go.Boxed.new ((a.alloc (.cells #[(.slice (some ⟨z.heap.size,0,none⟩) 0 p.nb)] 23)).alloc (.cells #[.slice p.ab p.nb p.cb,.slice p.sa p.ns p.cs] 25)) 4 (.bool true)
   rwa[World.size_alloc,World.size_alloc] at this
  have:=((Blk.new (a.alloc (.cells #[(.slice (some ⟨z.heap.size,0,none⟩) 0 p.nb)] 23)) #[.slice p.ab p.nb p.cb,.slice p.sa p.ns p.cs] 25).alloc (.cells #[.bool true] 4)).cell (j:=0) (by simp)
  rwa[World.size_alloc] at this
 have HP:Hid (∀Q,Below (w.heap.size+1) (w.alloc (.cells #[.slice p.ab p.nb p.cb,.slice p.sa p.ns p.cs] 25)) Q->sl Q p.ab p.nb p.zb):=λQ h=>(hp.bins.below P).below (by rw[World.size_alloc];exact h);rw[ao];clear X c0 c1 U J ao;refine wpIn_rangeFunc_ownG rfl (by decide) (gf:=113) (lb:=#[.pointer (some ⟨a.heap.size+1,0,none⟩),.pointer (some ⟨a.heap.size+1+1,0,none⟩)]) rfl trivial (enters_of func113 (by kernel_rfl) rfl)
  (Hx Fence.wide _ trivial rfl (by decide) (a.heap.size+1) (a.heap.size+1+1) (w.heap.size+1) p true t (by omega) (by omega) (by omega) cP bF.cell leb F (λQ h=>HP.out Q (ai.trans h))) F0 (Fg (by omega) (by omega)) brf (λ_=>rfl)
  (λpre W=>(∃v,_root_.Go.Boxed W a.heap.size 23 v/\W.ownsRow (w.heap.size+1) 3 1 v pre.length (pre.map (Value.int .i64))/\True)/\_root_.Go.Boxed W (a.heap.size+1+1) 4 (.bool true)/\Below (w.heap.size+1) (w.alloc (.cells #[.slice p.ab p.nb p.cb,.slice p.sa p.ns p.cs] 25)) W)
  (λ_ _ _=>False)
  (OwnFrom.and (Own.from (holdsRow_own (w.heap.size+1) a.heap.size 23 3 1 (λpre:List Int=>pre.length) (λpre=>pre.map (Value.int .i64)) (λ_ _=>True)) _) (OwnFrom.and (Own.from (boxed_own _ _ _) _) (ownFrom_below (by simp) (by omega))))
  (λ_ _ _ _ _ hs _ _=>hs)
  ⟨⟨_,bO,an,trivial⟩,bF,ai⟩
  (λx=>{ tmps:=#[.agg #[.slice p.ab p.nb p.cb,.slice p.sa p.ns p.cs],.pointer (some ⟨w.heap.size,0,none⟩),.slice none 0 0,.int .i64 0,.int .i64 0,.pointer (some ⟨a.heap.size,0,none⟩),.int .i64 x,undef,.agg #[.slice p.ab p.nb p.cb,.slice p.sa p.ns p.cs],.int .i64 0,.int .i64 0,.bool false,undef,.pointer (some ⟨w.heap.size,0,none⟩),.slice p.ab p.nb p.cb,.int .i64 p.nb,(.slice (some ⟨z.heap.size,0,none⟩) 0 p.nb),.agg #[.slice p.ab p.nb p.cb,.slice p.sa p.ns p.cs],.func (.func 113) #[] #[.pointer (some ⟨a.heap.size+1,0,none⟩),.pointer (some ⟨a.heap.size+1+1,0,none⟩)],.int .i64 x,undef,undef,undef,undef,undef,undef,undef,undef,undef,undef,undef,undef],defers:=[] }) ?assign ?body ?done ?stop
 case assign =>
  intro l x W K H
  gi_wp2
  exact H
 case body =>
  rintro l pre x W ⟨⟨v,o,b,-⟩,r,d⟩ a8;have hc:=o.cell
  gi_wp2_with(gi_at_builtin;refine wpListIn_append_own _ rfl _ _ 23 rfl (w.heap.size+1) 3 i1 (.int .i64 0) 1 8 underlying23 hj aj ah ae rfl (by decide) _ _ _ rfl (b.alloc _) ⟨W.heap.size,0,none⟩ 1 1 [.int .i64 x] rfl rfl (cell_one_new _ _ _) (by simp[Value.oneCell']) (by unfold maxLen;omega) (by omega) (by have:=d.size;simp at this ⊢;omega) ?_;intro v' w5 i g _;obtain⟨g',aw,rfl⟩:=ownsRow_succ i;obtain⟨G,T,y,L,m⟩:=o.appended (by decide) b (by have:=d.size;simpa using this) E i g;have a2:=G.cell;have ba:=G.frozen;have M:=(r.alloc _).kept g (r.not_row (by decide) b))
  refine⟨L.from _,⟨m,λu hu => ?_⟩,⟨_,T,by simpa using y,trivial⟩,M.other (by omega) _,d.trans m⟩;rw[r.cell] at hu;cases hu;exact(M.other (by omega) _).cell
 case done =>
  rintro D ys f hD rfl ⟨⟨v,o,b,-⟩,-,d⟩ H;have c0:f.cell? ⟨w.heap.size,0,none⟩=some (.slice p.ab p.nb p.cb):=(d.cell (p:=⟨w.heap.size,0,none⟩) (by simp)).trans (by simp);have c1:f.cell? ⟨w.heap.size,1,none⟩=some (.slice p.sa p.ns p.cs):=(d.cell (p:=⟨w.heap.size,1,none⟩) (by simp)).trans (by simp);have bd:w.heap.size<f.heap.size:=by have:=d.size;simp at this;omega
  gi_wp2_with(refine⟨trivial,?_⟩;gi_at_call 64;refine(Du Fence.wide _ trivial rfl p false _).mono ?_;rintro e Y ⟨rfl,rfl⟩)
  have bo:=o.lt;obtain⟨q,ar,s5,bO,al,bF,cP,au,a0⟩:∃q,(f.alloc (.cells #[.slice p.ab p.nb p.cb,.slice p.sa p.ns p.cs] 25)).alloc (.cells #[.bool false] 4)=q/\q.heap.size=f.heap.size+2/\_root_.Go.Boxed q a.heap.size 23 v/\q.ownsRow (w.heap.size+1) 3 1 v (frL p true p.nb).length ((frL p true p.nb).map (Value.int .i64))/\_root_.Go.Boxed q (f.heap.size+1) 4 (.bool false)/\q.cell? ⟨f.heap.size,0,none⟩=some (.slice p.ab p.nb p.cb)/\Below (w.heap.size+1) (w.alloc (.cells #[.slice p.ab p.nb p.cb,.slice p.sa p.ns p.cs] 25)) q/\q.heap[D]?=some (.deferred (some [])):=by
   refine⟨_,rfl,by simp,(o.alloc _).alloc _,(b.alloc _).alloc _,?_,?_,(d.alloc (by omega) _).alloc (by simp;omega) _,?_⟩
   .have:=_root_.Go.Boxed.new (f.alloc (.cells #[.slice p.ab p.nb p.cb,.slice p.sa p.ns p.cs] 25)) 4 (.bool false)
    rwa[World.size_alloc] at this
   .exact((Blk.new f #[.slice p.ab p.nb p.cb,.slice p.sa p.ns p.cs] 25).alloc (.cells #[.bool false] 4)).cell (j:=0) (by simp)
   have ap:=(Qkq H).1;exact((((Below.refl f.heap.size f).alloc nlr _).alloc (by simp) _).block D ap).trans H
  have ap:=(Qkq H).1;have bn:=Nf p p.nb;rw[ar];clear o b d H c0 c1 ar ai;refine wpIn_rangeFunc_ownG rfl (by decide) (gf:=113) (lb:=#[.pointer (some ⟨f.heap.size,0,none⟩),.pointer (some ⟨f.heap.size+1,0,none⟩)]) rfl trivial (enters_of func113 (by kernel_rfl) rfl)
   (Hx Fence.wide _ trivial rfl (by decide) f.heap.size (f.heap.size+1) (w.heap.size+1) p false q (by omega) (by omega) (by omega) cP bF.cell leb F (λQ h=>HP.out Q (au.trans h))) F0 (Fg (by omega) (by omega)) brf (λ_=>rfl)
   (λpre W=>(∃v,_root_.Go.Boxed W a.heap.size 23 v/\W.ownsRow (w.heap.size+1) 3 1 v (frL p true p.nb++pre).length ((frL p true p.nb++pre).map (Value.int .i64))/\True)/\_root_.Go.Boxed W (f.heap.size+1) 4 (.bool false)/\Below (w.heap.size+1) (w.alloc (.cells #[.slice p.ab p.nb p.cb,.slice p.sa p.ns p.cs] 25)) W/\W.heap[D]?=some (.deferred (some [])))
   (λ_ _ _=>False)
   (OwnFrom.and (Own.from (holdsRow_own (w.heap.size+1) a.heap.size 23 3 1 (λpre:List Int=>(frL p true p.nb++pre).length) (λpre=>(frL p true p.nb++pre).map (Value.int .i64)) (λ_ _=>True)) _) (OwnFrom.and (Own.from (boxed_own _ _ _) _) (OwnFrom.and (ownFrom_below (by simp) (by omega)) (λs A B row hs hg hr=>(hg.block D (Qkq hs).1 (λe=>by have:=(hr D e.symm).1;omega)).trans hs))))
   (λ_ _ _ _ _ hs _ _=>hs)
   ⟨⟨_,bO,by simpa using al,trivial⟩,bF,au,a0⟩
   (λx=>{ tmps:=#[.agg #[.slice p.ab p.nb p.cb,.slice p.sa p.ns p.cs],.pointer (some ⟨w.heap.size,0,none⟩),.slice none 0 0,.int .i64 0,.int .i64 0,.pointer (some ⟨a.heap.size,0,none⟩),undef,.int .i64 x,.agg #[.slice p.ab p.nb p.cb,.slice p.sa p.ns p.cs],.int .i64 0,.int .i64 0,.bool false,undef,.pointer (some ⟨w.heap.size,0,none⟩),.slice p.ab p.nb p.cb,.int .i64 p.nb,(.slice (some ⟨z.heap.size,0,none⟩) 0 p.nb),.agg #[.slice p.ab p.nb p.cb,.slice p.sa p.ns p.cs],.func (.func 113) #[] #[.pointer (some ⟨a.heap.size+1,0,none⟩),.pointer (some ⟨a.heap.size+1+1,0,none⟩)],undef,undef,undef,undef,undef,.agg #[.slice p.ab p.nb p.cb,.slice p.sa p.ns p.cs],.func (.func 113) #[] #[.pointer (some ⟨f.heap.size,0,none⟩),.pointer (some ⟨f.heap.size+1,0,none⟩)],.int .i64 x,undef,undef,undef,undef,undef],defers:=[] }) ?assign2 ?body2 ?done2 ?stop2
  case assign2 =>
   intro l x W K H
   gi_wp2
   exact H
  case body2 =>
   rintro l pre x W ⟨⟨v,o,b,-⟩,r,d,a9⟩ a8;have hc:=o.cell;have bl:(frL p true p.nb++pre).length<=2*p.nb:=by rw[List.length_append];omega
   gi_wp2_with(gi_at_builtin;refine wpListIn_append_own _ rfl _ _ 23 rfl (w.heap.size+1) 3 i1 (.int .i64 0) 1 8 underlying23 hj aj ah ae rfl (by decide) _ _ _ rfl (b.alloc _) ⟨W.heap.size,0,none⟩ 1 1 [.int .i64 x] rfl rfl (cell_one_new _ _ _) (by simp[Value.oneCell']) (by unfold maxLen;omega) (by omega) (by have:=d.size;simp at this ⊢;omega) ?_;intro v' w5 i g _;obtain⟨g',aw,rfl⟩:=ownsRow_succ i;obtain⟨G,T,y,L,m⟩:=o.appended (by decide) b (by have:=d.size;simpa using this) E i g;have a2:=G.cell;have ba:=G.frozen;have M:=(r.alloc _).kept g (r.not_row (by decide) b))
   simp only[List.length_append] at T y L m;refine⟨L.from _,⟨m,λu hu => ?_⟩,⟨_,T,by simpa[Nat.add_assoc] using y,trivial⟩,M.other (by omega) _,d.trans m,L.same D _ a9 rfl⟩;rw[r.cell] at hu;cases hu;exact(M.other (by omega) _).cell
  case done2 =>
   rintro D2 ys W a4 rfl ⟨⟨v,o,b,-⟩,-,d,aq⟩ ag;have hc:=o.cell
   gi_wp2
   refine⟨by simp,.inl ⟨_,_,rfl,run_takeDeferred ag,?_⟩⟩;have a5:D≠D2:=by omega
   have S:(W.putObj D2 (.deferred none)).heap[D]?=some (.deferred (some [])):=((grownBy_putObj' W D2 (.deferred none)).block D (Qkq aq).1 (λe=>a5 (by cases e;rfl))).trans aq;refine⟨by simp,.inl ⟨_,_,rfl,run_takeDeferred S,?_⟩⟩;have y:=ownsRow_putObj (ownsRow_putObj b (.deferred none) ag rfl) (.deferred none) S rfl;have a6:Below (w.heap.size+1) (w.alloc (.cells #[.slice p.ab p.nb p.cb,.slice p.sa p.ns p.cs] 25)) (W.putObj D2 (.deferred none)):=d.trans (belowK_b (w:=q) (by omega) W D2 _ _ a4 ag rfl rfl);have m:=a6.trans (belowK_b (w:=t) (by omega) (W.putObj D2 (.deferred none)) D _ (.deferred none) hD S rfl rfl);rw[H0.out,P8 H0.out];exact⟨_,results_tmp2 rfl _ _ _,_,rfl,X5 y (Nat.le_succ _),P.trans (m.mono (by omega))⟩
  case stop2 =>
   rintro D c pre W _ _ h _;exact h.elim
 case stop =>
  rintro D c pre W _ _ h _;exact h.elim
open Go.Sort
theorem Vy(B:Nat)(x but:Int)(w:World)(b:B<w.heap.size)(c:w.cell? ⟨B,0,none⟩=some (.int .i64 but)):
  Calls prog 106 #[.int .i64 x,.pointer (some ⟨B,0,none⟩)] w λe a=>e = .returned (.bool (x==but))/\Below w.heap.size w a:=by
 go_enter func106,ntmps106;go_wp2_with fail;go_ret;exact⟨rfl,Below.refl _ _⟩
def Je(s:St)(o l:Nat)(n:Int)(av:Int->Int)(F:List Int)(A BX BL g k:Nat)(wk:World):Prop :=
 ∃x:St,ep s o l n (Tk.go av n (F.take k)) x/\ai A wk x/\Blk wk BX 31 7 (λj=>x.cells.getD j default)/\Blk wk g 3 F.length (λj => .int .i64 (F.getD j 0))/\(x.os.z o).ls.a=some ⟨BL,0,none⟩
theorem Xo{F:List Int}{k:Nat}(a:k<F.length):F.take (k+1)=F.take k++[F.getD k 0]:=by
 rw[List.take_add_one];simp[List.getD,List.getElem?_eq_getElem a]
theorem Yw{F:List Int}{k:Nat}(a:k<F.length):F.getD k 0∈F:=by
 simp[List.getD,List.getElem?_eq_getElem a]
theorem Dh(h:ah p s=0)(c:b<p.nb)(a:g<p.ns):la p s b g=0/\rq p s b g=ar s b g:=by
 have e:la p s b g=0:=by unfold la;rw[if_pos h,bq (by omega),bq (by omega)];rfl
 exact⟨e,by unfold rq;rw[if_pos e];rfl⟩
theorem Wz(r:au p s)(c:b<p.nb)(a:g<p.ns):0<=ar s b g/\ar s b g<=200:=by
 have f:=r.fm;refine⟨(kq (r.goods g a)).2 b c,?_⟩;have e:=f.sh.num b (by rw[f.sh.n];exact c) g a;have h:=(mt (s:=s) (b:=b) (g:=g) f.holdN).1;have d:=(jr (s:=s) (b:=b) (g:=g) f.moveN).1;unfold ar;omega
theorem Kq(p:Pl)(s:St)(order line n but:Int)(w:World)(hp:p.At w)(hs:s.At w):
  Calls prog 58 #[p.val,s.val,.int .i64 order,.int .i64 line,.int .i64 n,.int .i64 but] w λe t=>∃x:St,e = .returned (.tuple #[x.val,.int .i64 (Bm p s order line n but),.int .i64 (fa p s order line n but)])/\x.At t/\zo p s order line n but x/\(fa p s order line n but=0->ai w.heap.size t x)/\Below w.heap.size w t:=by
 obtain⟨P,hW,bd,X0,K0,Z0⟩:∃W,((((w.alloc (.cells #[.slice p.ab p.nb p.cb,.slice p.sa p.ns p.cs] 25)).alloc (.cells s.cells 31)).alloc (.cells #[.int .i64 but] 3)).alloc (.cells #[.slice .none 0 0,.slice .none 0 0,.slice .none 0 0,.slice .none 0 0,.slice .none 0 0,.slice .none 0 0,.slice .none 0 0] 31))=W/\Below w.heap.size w W/\mf W w.heap.size (w.heap.size+1) p s/\Blk W (w.heap.size+2) 3 1 (λ_ => .int .i64 but)/\Blk W (w.heap.size+3) 31 7 (λ_ => .slice .none 0 0):=
  ⟨_,rfl,((j8 _ _ _).alloc (by simp;omega) _).alloc (by simp;omega) _,((ox w p s _ _).below (brf.alloc nlr _)).below (brf.alloc nlr _),((Blk.mk' (cur:=#[.int .i64 but]) (by simp) rfl).congr (λj hj=>by match j,hj with|0,_=>rfl)).alloc _,(Blk.mk' (cur:=#[.slice .none 0 0,.slice .none 0 0,.slice .none 0 0,.slice .none 0 0,.slice .none 0 0,.slice .none 0 0,.slice .none 0 0]) (by simp) rfl).congr (λj hj=>by match j,hj with|0,_=>rfl|1,_=>rfl|2,_=>rfl|3,_=>rfl|4,_=>rfl|5,_=>rfl|6,_=>rfl)⟩
 have HC:Hid (∀V,Below P.heap.size P V->mf V w.heap.size (w.heap.size+1) p s/\p.At V/\s.At V/\Below w.heap.size w V/\Blk V (w.heap.size+3) 31 7 (λ_ => .slice .none 0 0)/\Blk V (w.heap.size+2) 3 1 (λ_ => .int .i64 but)):=λV h=>⟨X0.below h,(hp.below bd).below h,(hs.below bd).below h,bd.trans (h.mono bd.size),Z0.below h,K0.below h⟩;have HW:Hid ((((w.alloc (.cells #[.slice p.ab p.nb p.cb,.slice p.sa p.ns p.cs] 25)).alloc (.cells #[.slice s.on.a s.on.n s.on.c,.slice s.os.a s.os.n s.os.c,.slice s.hs.a s.hs.n s.hs.c,.slice s.ms.a s.ms.n s.ms.c,.slice s.si.a s.si.n s.si.c,.slice s.so.a s.so.n s.so.c,.slice s.sf.a s.sf.n s.sf.c] 31)).alloc (.cells #[.int .i64 but] 3)).alloc (.cells #[.slice .none 0 0,.slice .none 0 0,.slice .none 0 0,.slice .none 0 0,.slice .none 0 0,.slice .none 0 0,.slice .none 0 0] 31)=P):=hW;have leb:=hp.leb;have c7:=hp.capb;have capb:=c7;have les:=hp.les;have caps:=hp.caps;have g3:=Z0.lt;unfold maxLen at capb caps;clear hW X0 Z0 K0 hp hs;unfold Pl.val St.val;go_enter func58,ntmps58;go_wp2_with fail;rw[HW.out];obtain⟨X,u,r,q,A,kb⟩:=HC.out P brf;refine(Nq p s order line n but P u r).mono ?_;rintro e w1 ⟨rfl,hB⟩;clear X u r q A kb HW;obtain⟨⟨⟨l1,d0,d1⟩,l2,c0,c1,c2,c3,c4,c5,c6⟩,u,r,q,A,kb⟩:=HC.out w1 hB;by_cases hE:fa p s order line n but=0;rotate_left
 .have i:Hid (Bm p s order line n but=0):=if_neg hE;clear c0 c1 c2 c3 c4 c5 c6 u r kb;obtain⟨zl,fd,fn,fz,zc1,gb,zc2,eTz,zc3,gk,zc4,ev,zc5,gm,e5⟩:=z7 A;go_wp2_with fail;have KZ:=n7b A;have aw:=n7w (b:=w.heap.size+3) q (by omega);unfold set7 at KZ aw;obtain⟨bz,cr,cq,cv,cn,ct,ck⟩:=co KZ;refine Xzq (v := .tuple #[ng.val,.int .i64 0,.int .i64 (fa p s order line n but)]) (by simp[results,results58,go_sem,ng,St.val,bz,cr,cq,cv,cn,ct,ck]) rfl ?_;exact⟨ng,by rw[i.out];rfl,y9 _,⟨λh=>absurd h hE,λ_=>⟨rfl,rfl,rfl,rfl,rfl,rfl,rfl⟩⟩,λh=>absurd h hE,aw⟩
 have HE:=hid hE;have D:Hid (np p s order line n but):=allocIn hE;rw[hE];clear hE;have Q:Hid (au p s):=ew D.out.st;have df:Hid (iz p=0):=(ts Q.out.fm.sh0).1;obtain⟨o,rfl⟩:=Qzz D.out.o0;obtain⟨l,rfl⟩:=Qzz D.out.l0;have ho:o<s.os.n:=D.out.on;have hl:l<(s.os.z o).ls.n:=D.out.ln;have nb1:=Q.out.fm.sh.pl.nb1;have nb6:=Q.out.fm.sh.pl.nb6;have dr:=hid u;clear u r c0 c1 c2 c3 c4 c5 c6 q A;go_wp2_with fail;refine(Uy p w1 dr.out).mono ?_;rintro e w2 ⟨v,rfl,B,ax⟩;clear l1 d0 d1 l2 dr;rw[P8 df.out] at B;have ec:Hid ((fw p).length=p.nb):=S8 p;have hv:v ≠ .slice none 0 0:=by
  rintro rfl;rcases B.2 with⟨_,h0⟩|⟨g2,g4,gy,h,_⟩
  .have:=ec.out;omega
  cases h
 obtain⟨g,c,rfl,ey,e8,hg,hk⟩:=Blk.ofOwns B hv;have dj:Blk w2 g 3 (fw p).length (λj => .int .i64 ((fw p).getD j 0)):=by
  have h:=hk.less (m:=(fw p).length) (by omega);refine h.congr λj hj => ?_;simp[List.getD,List.getElem?_eq_getElem hj]
 have d5:Hid (Calls prog 105 #[.slice (some ⟨g,0,none⟩) (fw p).length c,.func (.func 106) #[] #[.pointer (some ⟨w.heap.size+1+1,0,none⟩)]] w2 λe t=>e = .returned (.slice (some ⟨g,0,none⟩) (fc p but).length c)/\Blk t g 3 (fc p but).length (λj => .int .i64 ((fc p but).getD j 0))/\Below w1.heap.size w2 t):=
  X6 106 #[.pointer (some ⟨w.heap.size+1+1,0,none⟩)] (λx=>x==but) w1.heap.size g c (fw p) w2 hg ax.size ey e8 dj (enters_of func106 (by kernel_rfl) rfl) (λx wz A=>by
   have L:=kb.lt;exact Vy (w.heap.size+1+1) x but wz (Xzx L (Qzx ax.size A.size)) ((A.cell (p:=⟨w.heap.size+2,0,none⟩) L).trans ((ax.cell (p:=⟨w.heap.size+2,0,none⟩) L).trans (kb.k 0))))
 rw[df.out];clear B hv hk dj;go_wp2_with fail;refine d5.out.mono ?_;rintro e w3 ⟨rfl,cd,ds⟩;have a5:=ax.trans ds;have ap:=hB.trans (a5.mono hB.size);have fo:=a5.size;have eb:=cd.lt;have dy:=hid cd;have hf:(fc p but).length<=6:=by
  have:=ec.out;have:=List.length_filter_le (λb => !(b==but)) (fw p);unfold fc;omega
 have he:(fc p but).length<=c:=by
  have:=List.length_filter_le (λb => !(b==but)) (fw p);unfold fc;omega
 clear d5 cd kb ax ds a5 hB;obtain⟨⟨⟨l1,d0,d1⟩,l2,c0,c1,c2,c3,c4,c5,c6⟩,u,r,q,A,kb⟩:=HC.out w3 ap;have dv:Hid _:=nf p s w3 r Q.out.fm;clear u r q A kb;go_wp2_with fail;refine Calls.mono dv.out ?_;rintro e E ⟨x0,rfl,H,B,bi⟩;clear dv l1 d0 d1 l2 c0 c1 c2 c3 c4 c5 c6;have q4:=bi.size;obtain⟨W5,dn,a0,K5⟩:=ab7 E x0;have cc:=hid dn;have a8:=bi.trans (a0.mono bi.size);have ea:=ap.trans (a8.mono ap.size);have F:=ai.below B a0;have dm:=dy.out.below a8;have d4:o<x0.os.n:=by rw[H.os.1];exact ho
 have e0:=H.os.2 o d4;have fu:l<(x0.os.z o).ls.n:=by rw[e0.2.1];exact hl
 obtain⟨gO,G,f1,f2,f3,f4,f5,f6,f7,f8,f9,ag,S,aj,ay,ae⟩:=F.lineCell d4 fu;have s1:W5.cell? ⟨E.heap.size,1,none⟩=some (.slice x0.os.a x0.os.n x0.os.c):=K5.k 1;have s2:=K5.lt;have v1:=F.os.le;have v2:=F.os.cap;rw[f1] at s1;have b8:Hid (Je s o l n (λb=>ar s b.toNat (fj s o l).o.toNat) (fc p but) w3.heap.size E.heap.size G g 0 W5):=⟨x0,by rw[Qyz];exact ep.start Q.out.fm.hold H,F,K5,dm,f5⟩;have qo:(0:Int)<=(o:Int):=by omega
 have ql:(0:Int)<=(l:Int):=by omega
 have bb:=qa5 ea ap.size q4 eb f6;rw[<-cc.out] at s1 s2 f3 f4 f7;unfold maxLen at v2 f9;clear dn B F dm K5 bi a0 a8 ea f1 f2 f5 f6 ag S aj ay ae e0 H dy;simp only[St.val];go_wp2_with fail;rw[cc.out];clear s1 s2 f3 f4 f7 cc ap q4 fo eb v1 v2 f8 f9
 generalize x0.os.n=XN at *
 go_loopw [4,56] (λnv kv V=>∃k:Nat,k<=(fc p but).length/\kv = .int .i64 k/\nv = .int .i64 (Tk.go (λb=>ar s b.toNat (fj s o l).o.toNat) n ((fc p but).take k)).left/\Hid (Je s o l n (λb=>ar s b.toNat (fj s o l).o.toNat) (fc p but) w3.heap.size E.heap.size G g k V)/\Hid (Below P.heap.size P V)) (λ_ kv _=>(fc p but).length-(intOf kv).toNat)
 case atStart=>exact⟨0,Qxz _,rfl,rfl,b8,bb.out.1⟩
 clear b8;obtain⟨k,hk,rfl,rfl,HV,aq⟩:=hrel;have am:Hid (Ac (λb=>ar s b.toNat (fj s o l).o.toNat) n ((fc p but).take k) (Tk.go (λb=>ar s b.toNat (fj s o l).o.toNat) n ((fc p but).take k))):=D.out.tk ((un p but).sublist (List.take_sublist _ _)) (λx hx=>D.out.way x (List.mem_of_mem_take hx));have bg:Hid (k<(fc p but).length->Tk.go (λb=>ar s b.toNat (fj s o l).o.toNat) n ((fc p but).take (k+1))=(Tk.go (λb=>ar s b.toNat (fj s o l).o.toNat) n ((fc p but).take k)).step (λb=>ar s b.toNat (fj s o l).o.toNat) ((fc p but).getD k 0)):=λh=>by rw[Xo h,Tk.go_more]
 have ah:Hid (k=(fc p but).length->Tk.go (λb=>ar s b.toNat (fj s o l).o.toNat) n ((fc p but).take k)=M7 p s (fj s o l).o n but):=λh=>by rw[h,List.take_length];rfl
 obtain⟨x,hT,hO,hK,hF,dk⟩:=HV.out;have i:=qa5 hT hO hK hF dk;obtain⟨T,d9⟩:∃T,Tk.go (λb=>ar s b.toNat (fj s o l).o.toNat) n ((fc p but).take k)=T:=⟨_,rfl⟩;rw[d9] at am bg ah i ⊢;clear hT hO hK hF dk HV d9;have gq:=am.out.left0;have gj:=am.out.leftn;have hc:=D.out.n2;by_cases L:k<(fc p but).length;rotate_left
 .have ft:k=(fc p but).length:=by omega
  have HT:Hid (T=M7 p s (fj s o l).o n but):=ah.out ft;clear ah;have KX:=i.out.2.2.1;obtain⟨m1,p0,p1,p2,p3,p4,p5,p6⟩:=Boxed.of KX;obtain⟨-,-,-,q,A,-⟩:=HC.out wr aq.out;have HZ:=qa2 q A;obtain⟨zl,fd,fn,fz,zc1,gb,zc2,eTz,zc3,gk,zc4,ev,zc5,gm,e5⟩:=z7 A;clear KX q A;go_wp2_with fail;have KZ:=s7b HZ.out.2 x;have aw:=s7w (b:=w.heap.size+3) HZ.out.1 (by omega) x;have cp:=s7o i.out.2.1 HZ.out.2 x;unfold set7 at KZ aw cp;obtain⟨bz,cr,cq,cv,cn,ct,ck⟩:=co KZ;refine Xzq (v := .tuple #[x.val,.int .i64 T.left,.int .i64 0]) (by simp[results,results58,go_sem,St.val,bz,cr,cq,cv,cn,ct,ck]) rfl ?_;have HL:Bm p s o l n but=T.left:=by rw[HT.out];exact if_pos HE.out
  refine⟨x,by rw[HL,HE.out];rfl,cp.at,⟨λ_ => ?_,λh=>absurd HE.out h⟩,λ_=>cp.mono ?_,aw⟩
  .rw[<-HT.out];exact i.out.1
  have:=(HC.out _ bb.out.1).2.2.2.1.size;have:=bb.out.2.1;omega
 have ak:Hid _:=bg.out L;obtain⟨b6,cg⟩:=D.out.way _ (Yw L);have z0:=i.out.2.2.2.1.cell (j:=k) L;have z1:=i.out.2.2.2.1.lt;obtain⟨M,bc⟩:=Qzz b6;have dl:=hid bc;rw[bc] at z0 cg;have a2:M<p.nb:=by omega
 have dg:=D.out.good;obtain⟨gd,bf⟩:=Qzz dg.1;have g8:=hid bf;have a7:gd<p.ns:=by omega
 have b9:Hid (∀t,p.At t->s.At t->Calls prog 67 #[p.val,s.val,.int .i64 (M:Int),.int .i64 (gd:Int)] t λe fk=>e = .returned (.tuple #[.int .i64 (ar s M gd),.int .i64 0])/\Below t.heap.size t fk):=λt h1 h2=>by
  have h:=Ht p s M gd t h1 h2;rw[(Dh D.out.st a2 a7).1,(Dh D.out.st a2 a7).2] at h;exact h
 have hb:=Wz Q.out a2 a7;have fg:Hid ((λb:Int=>ar s b.toNat (fj s o l).o.toNat) ((fc p but).getD k 0)=ar s M gd):=by
  show ar s ((fc p but).getD k 0).toNat (fj s o l).o.toNat=_;rw[bc,bf]
  rfl
 generalize hAVd:ar s M gd=AV at *
 clear hAVd;have J:o<x.os.n:=by rw[i.out.1.os.1];exact ho
 have ex:=i.out.1.os.2 o J;have ao:l<(x.os.z o).ls.n:=by rw[ex.2.1];exact hl
 obtain⟨gO,d7,f1,f2,f3,f4,f5,f6,f7,f8,f9,ag,S,aj,ay,ae⟩:=i.out.2.1.lineCell J ao;rw[i.out.2.2.2.2] at f5;simp only[Qkx,Qkz,and_true] at f5;subst f5;have du:((x.os.z o).ls.z l).o=(gd:Int):=by
  rw[ex.2.2 l ao,if_pos ⟨rfl,rfl⟩];exact bf
 have cm:((x.os.z o).ls.z l).n=(fj s o l).n-(n-T.left):=by
  rw[ex.2.2 l ao,if_pos ⟨rfl,rfl⟩]
  rfl
 have g7:=hid cm;have e3:=dz (Q.out.fm.line o ho l hl);have eg : -1000<=((x.os.z o).ls.z l).n/\((x.os.z o).ls.z l).n<=1000:=by
  rw[cm];have h1:(fj s o l).n=((s.os.z o).ls.z l).n:=rfl;rw[h1];omega
 rw[du] at S;obtain⟨⟨⟨l1,d0,d1⟩,l2,c0,c1,c2,c3,c4,c5,c6⟩,u,r,q,A,kb⟩:=HC.out wr aq.out;have bt:=qa2 u r;have r0:=Qqq d0;have r1:=Qqq d1;have e1:=Qqq c0;have fi:=Qqq c1;have fy:=Qqq c2;have fv:=Qqq c3;have e4:=Qqq c4;have gp:=Qqq c5;have e2:=Qqq c6;have rl:=Qqq S;clear bc bf dg u r q A kb d0 d1 c0 c1 c2 c3 c4 c5 c6 l1 l2 f1 f2 f3 f4 f6 f8 f9 ag S aj ay ae ex du cm e3 ah b6 cg;obtain⟨K,cu⟩:∃K,((x.os.z o).ls.z l).n=K:=⟨_,rfl⟩;have dd:=hid cu;rw[cu] at eg;clear cu;obtain⟨N,hN⟩:∃N,T.left=N:=⟨_,rfl⟩;have HN:=hid hN;rw[hN] at gq gj ⊢;clear hN;have q0:(0:Int)<=(k:Int):=by omega
 have bh:Hid (∀m,min N AV=m->min T.left ((λb:Int=>ar s b.toNat (fj s o l).o.toNat) ((fc p but).getD k 0))=m):=λm h=>by rw[fg.out,HN.out];exact h
 go_wp2_with fail;refine Qxq (by kernel_rfl) (by kernel_rfl) ?_
 repeat(go_big_quiet_step((go_at_call 67;exact Xxz (b9.out _ (bt.out.1.below (Qxx _ _ _)) (bt.out.2.below (Qxx _ _ _))))))
 refine Qqz ?_;intro U d8;have an:Below wr.heap.size wr U:=by obtain⟨⟨dq,ha⟩,eh⟩:=d8;subst eh;exact Qxx _ _ _
 clear d8 r0 r1 e1 fi fy fv e4 gp e2 rl bt z0 z1 b9;have Y:=hid (aq.out.trans (an.mono aq.out.size));have f:Hid (ep s o l n T x/\ai w3.heap.size U x/\Blk U E.heap.size 31 7 (λj=>x.cells.getD j default)/\Blk U g 3 (fc p but).length (λj => .int .i64 ((fc p but).getD j 0))/\(x.os.z o).ls.a=some ⟨G,0,none⟩):=⟨i.out.1,ai.below i.out.2.1 an,i.out.2.2.1.below an,i.out.2.2.2.1.below an,i.out.2.2.2.2⟩;clear an i aq f7;by_cases e7:min AV N=0
 .have dt:min N AV=0:=by omega
  have ad:Hid (Je s o l n (λb=>ar s b.toNat (fj s o l).o.toNat) (fc p but) w3.heap.size E.heap.size G g (k+1) U/\(Tk.go (λb=>ar s b.toNat (fj s o l).o.toNat) n ((fc p but).take (k+1))).left=N):=by
   refine⟨⟨x,?_,f.out.2⟩,?_⟩
   .rw[ak.out];exact f.out.1.stepZero (bh.out 0 dt)
   rw[ak.out];show T.left-min T.left _=N;rw[bh.out 0 dt,HN.out];omega
  go_wp2_with fail;go_roundw
  case rel=>exact⟨k+1,by omega,by go_num,by rw[ad.out.2],ad.out.1,Y⟩
  case measure=>simp[intOf];omega
 obtain⟨d,dw⟩:∃d,min AV N=d:=⟨_,rfl⟩;have fr:=hid dw;have gn:0<d:=by omega
 have gl:d<=N:=by omega
 have hd:(d==0)=false:=by simp;omega
 have d6:Hid (min N AV=d):=by show min N AV=d;omega
 have di:Hid (addE x.hs.n x.hs.z (kc o l M d)=0):=by
  have h:=f.out.1.addE (p:=p) (order:=o) (line:=l) (but:=but) D.out (λx hx=>D.out.way x (List.mem_of_mem_take hx)) am.out (b:=(M:Int)) ⟨by omega,by omega⟩ gn (by rw[HN.out];exact gl);exact h
 have KX:=f.out.2.2.1;have y2:U.cell? ⟨E.heap.size,2,none⟩=some (.slice x.hs.a x.hs.n x.hs.c):=KX.k 2;have y3:=KX.lt;have dc:Hid (Calls prog 107 #[.slice x.hs.a x.hs.n x.hs.c,.agg #[.int .i64 (o:Int),.int .i64 (l:Int),.int .i64 (M:Int),.int .i64 d]] U λe t=>∃s':Hs,e = .returned (.tuple #[s'.val,.int .i64 0])/\cz U.heap.size 103 t s'/\Dw x.hs.n x.hs.z (kc o l M d) s'/\Below U.heap.size U t):=by
  have h:=Tu x.hs (kc o l M d) U f.out.2.1.hs.at;rw[di.out] at h;exact h
 clear KX e7 fr;go_wp2_with fail;refine dc.out.mono ?_;rintro e wa ⟨y,rfl,b7,db,af⟩;clear y2 y3 dc dw;have q9:=Y.out.size;have qa:=af.size;obtain⟨b1,b2,b3,b4,b5⟩:=bb.out;have d2:=ai.below f.out.2.1 af;have KA:=f.out.2.2.1.below af;have FA:=f.out.2.2.2.1.below af;have bx:=Y.out.trans (af.mono Y.out.size);have gs:=f.out.2.2.1.lt;have J:o<x.os.n:=by rw[f.out.1.os.1];exact ho
 have be:=(d2.withHolds (b7.mono (by omega))).box KA 2 (.slice y.a y.n y.c);have KB:=KA.set 2 (.slice y.a y.n y.c);have FB:=FA.other (a:=⟨E.heap.size,2,none⟩) (Blk.ne2 FA KA (by decide)) (.slice y.a y.n y.c);have dx:=bx.setCell (p:=⟨E.heap.size,2,none⟩) (by show P.heap.size<=E.heap.size;omega) (.slice y.a y.n y.c);have ao:l<(x.os.z o).ls.n:=by rw[(f.out.1.os.2 o J).2.1];exact hl
 obtain⟨gO,d7,f1,f2,f3,f4,f5,f6,f7,f8,f9,ag,S,aj,ay,ae⟩:=be.lineCell (o:=o) (l:=l) J ao;have ce:(x.os.z o).ls.a=some ⟨d7,0,none⟩:=f5;rw[f.out.2.2.2.2] at ce;simp only[Qkx,Qkz,and_true] at ce;subst ce;have ei:(wa.setCell ⟨E.heap.size,2,none⟩ (.slice y.a y.n y.c)).cell? ⟨G,l*4+3,none⟩=some (.int .i64 ((x.os.z o).ls.z l).n):=ae;rw[dd.out] at ei;have g9:=ag (l*4+3);obtain⟨B',a3,-,-,-,ch⟩:=be.os.lines o J;rw[f5] at a3;simp only[Qkx,Qkz,and_true] at a3;subst a3;have dh:=be.setLine (o:=o) J f5 l 3 (by decide) (K-d);have KC:=KB.other (a:=⟨G,l*4+3,none⟩) (Blk.ne2 KB ch (by decide)) (.int .i64 (K-d));have FC:=FB.other (a:=⟨G,l*4+3,none⟩) (Blk.ne2 FB ch (by decide)) (.int .i64 (K-d));have de:=dx.setCell (p:=⟨G,l*4+3,none⟩) (by show P.heap.size<=G;omega) (.int .i64 (K-d));have d3:=f.out.1.stepAdd (av:=λb=>ar s b.toNat (fj s o l).o.toNat) (order:=o) (line:=l) (b:=(fc p but).getD k 0) (m:=d) ho hl (bh.out d d6.out) (by rw[dl.out];exact di.out) (by rw[dl.out];exact db);have ad:Hid (Je s o l n (λb=>ar s b.toNat (fj s o l).o.toNat) (fc p but) w3.heap.size E.heap.size G g (k+1) ((wa.setCell ⟨E.heap.size,2,none⟩ (.slice y.a y.n y.c)).setCell ⟨G,l*4+3,none⟩ (.int .i64 (K-d)))/\(Tk.go (λb=>ar s b.toNat (fj s o l).o.toNat) n ((fc p but).take (k+1))).left=N-d/\Below P.heap.size P ((wa.setCell ⟨E.heap.size,2,none⟩ (.slice y.a y.n y.c)).setCell ⟨G,l*4+3,none⟩ (.int .i64 (K-d)))):=by
  refine⟨⟨withHolds (setLine x o l 3 (K-d)) y,?_,dh,KC.congr (λj hj=>by match j,hj with|0,_=>rfl|1,_=>rfl|2,_=>rfl|3,_=>rfl|4,_=>rfl|5,_=>rfl|6,_=>rfl),FC,?_⟩,?_,de⟩
  .rw[ak.out];have h:=d3;rw[show((x.os.z ((o:Nat):Int).toNat).ls.z ((l:Nat):Int).toNat).n=K from dd.out] at h;exact h
  .exact((dp (s:=x) (o:=o) (l:=l) (c:=3) (v:=K-d) o).2.1).trans f.out.2.2.2.2
  rw[ak.out];show T.left-min T.left _=N-d;rw[bh.out d d6.out,HN.out]
 have z1:=KA.lt;have z2:=KA.frozen 2;have z3:=KA.k 2;clear d2 KA FA bx be KB FB dx f1 f2 f3 f4 f5 f6 f8 f9 ag S aj ay ae ch dh KC FC de d3 b7 db af f Y am ak;simp only[Hs.val];go_wp2_with fail;go_roundw
 case rel=>exact⟨k+1,by omega,by go_num,by rw[ad.out.2.1],ad.out.1,ad.out.2.2⟩
 case measure=>simp[intOf];omega
structure D5(p:Pl)(s y0:St)(A B7:Nat)(W0:World)(cur:St)(wk:World):Prop where
 own0:ai A wk y0
 own:ai A wk cur
 box:Blk wk B7 31 7 (λj=>cur.cells.getD j default)
 bel:Below W0.heap.size W0 wk
 le:A<=wk.heap.size
theorem D5.below{d cur:St}{c:Nat}{f b e:World}(h:D5 p s d A c f cur b)(a:Below b.heap.size b e):D5 p s d A c f cur e :=
 ⟨h.own0.below a,h.own.below a,h.box.below a,h.bel.trans (a.mono h.bel.size),Qzx h.le a.size⟩
def xw(p:Pl)(s:St)(i:Nat)(cur:St):Prop:=ig p (-1) (pk s) (vy s) (dh s s.os.n) i cur
def xy(p:Pl)(s:St)(i j:Nat)(cur:St):Prop:=∃y,xw p s i y/\kt p (-1) (pk s) i y j cur
theorem xy.next{cur:St}(h:xy p s i (s.os.z i).ls.n cur):xw p s (i+1) cur:=h
theorem xw.row{cur:St}(h:xw p s i cur):xy p s i 0 cur:=⟨cur,h,rfl⟩
theorem xw.skip{cur:St}(r:au p s)(h:xw p s i cur)(hi:i<s.os.n)(c:¬((dh s s.os.n).os.z i).k=1):xw p s (i+1) cur :=
 ⟨cur,h,kt.skip (uu r) (ig.pos (uu r) (λa _=>mh s a) (Nat.le_of_lt hi) h) hi (Nat.le_of_eq (mh s i)) λb _=>if_neg c⟩
theorem xy.pos{cur:St}(r:au p s)(h:xy p s i j cur)(hi:i<s.os.n)(c:j<=(s.os.z i).ls.n):Pos p (-1) (pk s) (dh s s.os.n) i j cur:=by
 obtain⟨y,d,b⟩:=h;exact kt.pos (uu r) (ig.pos (uu r) (λa _=>mh s a) (Nat.le_of_lt hi) d) hi (by rw[<-mh];exact c) b
theorem xy.stepIn{cur:St}(r:au p s)(h:xy p s i j cur)(hi:i<s.os.n)(a:j<(s.os.z i).ls.n):jz p (-1) cur i j (pk s i j):=
 (h.pos r hi (Nat.le_of_lt a)).stepIn (uu r) hi (by rw[<-mh];exact a)
theorem xy.step{cur:St}(h:xy p s i j cur)(T:lg p (-1) cur i j (pk s i j) x):xy p s i (j+1) x:=by
 obtain⟨y,b,a⟩:=h;exact⟨y,b,cur,a,T⟩
theorem Sc(p:Pl)(s:St)(w:World)(hp:p.At w)(hs:s.At w):
  Calls prog 19 #[p.val,s.val] w λe w'=>∃x:St,e = .returned (.tuple #[x.val,.int .i64 (ah p s)])/\x.At w'/\F7 p s x/\(ah p s=0->ai w.heap.size w' x)/\Below w.heap.size w w':=by
 obtain⟨t,hW,ar,X0,Z0⟩:=zd w p s;have HC:=wv hp hs ar X0 Z0;have HW:=hid hW;have leb:=hp.leb;have bn:=hp.capb;have les:=hp.les;have bp:=hp.caps;have capb:=bn;have caps:=bp;have eTz:=Z0.lt;unfold maxLen at capb caps;clear hW X0 Z0 hp hs;unfold Pl.val St.val;go_enter func19,ntmps19;go_wp2_with fail;rw[HW.out];obtain⟨X,F,E,q,J⟩:=HC.out t brf;refine(lm p s t F E).mono ?_;rintro e g ⟨rfl,hB⟩;clear X F E q J HW;obtain⟨⟨⟨l1,d0,d1⟩,l2,c0,c1,c2,c3,c4,c5,c6⟩,F,E,q,J⟩:=HC.out g hB;by_cases h0:ah p s=0;rotate_left
 .have dk:=hid h0;have g0:(ah p s !=0)=true:=by simpa using h0
  clear h0 F E;obtain⟨zl,b6,ce,ci,zc1,ck,zc2,bw,zc3,cn,zc4,bx,zc5,cq,b3⟩:=z7 J;go_wp2_with fail;have KZ:=n7b J;have hbz:=n7w (b:=w.heap.size+2) q (by omega);unfold set7 at KZ hbz;obtain⟨e0,e1,e2,e3,e4,e5,e6⟩:=co KZ;refine Xzq (v:=.tuple #[ng.val,.int .i64 (ah p s)]) (by simp[results,results19,go_sem,ng,St.val,e0,e1,e2,e3,e4,e5,e6]) rfl ?_;exact⟨ng,rfl,y9 _,⟨λh=>absurd h dk.out,λ_=>⟨rfl,rfl,rfl,rfl,rfl,rfl,rfl⟩⟩,λh=>absurd h dk.out,hbz⟩
 have H0:=hid h0;have HR:Hid (au p s):=ew h0;rw[h0];clear h0;have cg:Hid (Calls prog 51 #[s.val] g λe w'=>∃s':St,e = .returned s'.val/\ae s' s/\ai g.heap.size w' s'/\Below g.heap.size g w'):=nf p s g E HR.out.fm;clear F E q J;go_wp2_with fail;refine Calls.mono cg.out ?_;rintro e w4 ⟨d,rfl,Q,U,ac⟩;clear cg l1 d0 d1 l2 c0 c1 c2 c3 c4 c5 c6;obtain⟨W5,cd,H,K5⟩:=ab7 w4 d;have a2:=hid cd;have aj:=ac.trans (H.mono ac.size);have cs:=hB.trans (aj.mono hB.size);have cm:Hid (ai g.heap.size W5 (dh d 0)):=by show ai g.heap.size W5 (dh d 0);rw[Oo];exact ai.below U H
 have Y:=hid Q;have s1:=K5.k 1;have cb:W5.cell? ⟨w4.heap.size,1,none⟩=some (.slice d.os.a d.os.n d.os.c):=s1;have s2:=K5.lt;have b2:=hid K5;have b0:=hid cs;have A1:t.heap.size<=g.heap.size:=hB.size;have A2:g.heap.size<=w4.heap.size:=ac.size;have A3:g.heap.size<=W5.heap.size:=aj.size;have dv:g.heap.size<=w4.heap.size:=ac.size;have ol:d.os.n<=d.os.c:=(ai.below U H).os.le;have oc:d.os.c<=maxLen:=(ai.below U H).os.cap;unfold maxLen at oc;have d6:d.os.n<=4:=by rw[Q.os.1];exact HR.out.fm.os4
 rw[<-a2.out] at cb s2;clear cd U K5 ac H aj cs Q hB s1;simp only[St.val];go_wp2_with fail;rw[a2.out];clear cb s2 a2
 generalize w4.heap.size=m at *
 go_loopw [25] (λkv S=>∃k:Nat,k<=d.os.n/\kv = .int .i64 k/\Hid (ai g.heap.size S (dh d k))/\Hid (Blk S m 31 7 (λj=>d.cells.getD j default))/\Hid (Below t.heap.size t S)/\Hid (g.heap.size<=S.heap.size)) (λkv _=>d.os.n-(intOf kv).toNat)
 case atStart=>exact⟨0,Qxz _,rfl,cm,b2,b0,A3⟩
 clear cm b2 b0 A3;obtain⟨k,hk,rfl,L,D,av,ab⟩:=hrel;by_cases r:k<d.os.n
 .have q0:(0:Int)<=(k:Int):=by omega
  have q1:(k:Int)<(d.os.n:Int):=by omega
  obtain⟨gO,g1,g2,g3⟩:=L.out.os.list (by show 0<d.os.n;omega);have ca:d.os.a=some ⟨gO,0,none⟩:=g1;have HG:=hid g1;have u1:wr.cell? ⟨m,1,none⟩=some (.slice d.os.a d.os.n d.os.c):=D.out.k 1;rw[ca] at u1;have u2:=D.out.lt;have u3:=g3.lt;have bz:Hid (∀j,j<((dh d k).os.z k).ls.n->(0<=(((dh d k).os.z k).ls.z j).l/\(((dh d k).os.z k).ls.z j).l<=200)/\0<=(((dh d k).os.z k).ls.z j).b/\(((dh d k).os.z k).ls.z j).b<=200):=by
   show ∀j,j<(ie k k (d.os.z k)).ls.n->(0<=((ie k k (d.os.z k)).ls.z j).l/\((ie k k (d.os.z k)).ls.z j).l<=200)/\0<=((ie k k (d.os.z k)).ls.z j).b/\((ie k k (d.os.z k)).ls.z j).b<=200;rw[uw _ nlr];intro j hj;have e:=Y.out.os.2 k r;have hl:=dz (HR.out.fm.line k (by rw[<-Y.out.os.1];exact r) j (by rw[<-e.2.1];exact hj));rw[e.2.2 j hj];omega
  clear g1 ca g3;go_wp2_with fail;refine(Sl (dh d k) k g.heap.size gO wr ab.out L.out r HG.out bz.out).mono ?_;rintro e w6 ⟨y,rfl,f,y1,az,a1,b9⟩;have G:Hid (ai g.heap.size w6 (dh d (k+1))/\Blk w6 m 31 7 (λj=>d.cells.getD j default)/\Below t.heap.size t w6/\g.heap.size<=w6.heap.size):=by
   refine⟨?_,b9 _ _ _ _ (by decide) (by decide) D.out,av.out.trans (a1.mono A1),Qzx ab.out a1.size⟩;have e:((dh d k).os.z k).k=(d.os.z k).k:=by show(ie k k (d.os.z k)).k=_;rw[uw _ nlr]
   by_cases c:(d.os.z k).k=0
   .rw[<-Rp c,<-f (by rw[e];exact c)];exact az
   rw[<-O2 c,<-y1 (by rw[e];exact c)];exact az
  clear f y1 az a1 b9 L D av ab u1 u2 u3 bz HG;go_wp2_with fail;go_roundw
  case rel=>exact⟨k+1,by omega,by go_num,G.out.1,G.out.2.1,G.out.2.2.1,G.out.2.2.2⟩
  case measure=>simp[intOf];omega
 have dx:k=d.os.n:=by omega
 subst dx;obtain⟨f,ya,yn,yc,B,ap⟩:∃y:St,d.os.a=y.os.a/\d.os.n=y.os.n/\d.os.c=y.os.c/\Hid (D5 p s y g.heap.size m t y wr)/\Hid (ae y (dh s s.os.n)):=⟨dh d d.os.n,rfl,rfl,rfl,⟨L.out,L.out,D.out,av.out,ab.out⟩,by have h:=Ik Y.out d.os.n;rw[Y.out.os.1] at h ⊢;exact h⟩;have u1:wr.cell? ⟨m,1,none⟩=some (.slice d.os.a d.os.n d.os.c):=D.out.k 1;have u2:=D.out.lt;go_wp2_with fail;rw[ya,yn,yc];rw[yn,yc] at ol;rw[yc] at oc;rw[yn] at d6;clear u1 u2 ya yn yc L D av ab Y hk r
 go_loopw [37] (λkv S=>∃(i:Nat) (cur:St),i<=f.os.n/\kv = .int .i64 i/\Hid (D5 p s f g.heap.size m t cur S)/\Hid (xw p s i cur)) (λkv _=>f.os.n-(intOf kv).toNat)
 case atStart=>exact⟨0,f,Qxz _,rfl,B,ap.out⟩
 clear B;obtain⟨i,cur,hi,rfl,B,HA⟩:=hrel;by_cases r:i<f.os.n;rotate_left
 .have d4:i=f.os.n:=by omega
  have d7:Hid (jw p s cur):=by have h:=HA.out;rw[d4,ap.out.os.1] at h;exact h
  obtain⟨m1,p0,p1,p2,p3,p4,p5,p6⟩:=Boxed.of B.out.box;obtain⟨-,-,-,q,J⟩:=HC.out wr B.out.bel;have HZ:=qa2 q J;obtain⟨zl,b6,ce,ci,zc1,ck,zc2,bw,zc3,cn,zc4,bx,zc5,cq,b3⟩:=z7 J;have el:=(HC.out _ brf).2.2.2.1.size;clear q J;go_wp2_with fail;have KZ:=s7b HZ.out.2 cur;have cl:=s7w (b:=w.heap.size+2) HZ.out.1 (by omega) cur;have a8:=s7o B.out.own HZ.out.2 cur;unfold set7 at KZ cl a8;obtain⟨dn,ed,ea,ei,d9,ee,dy⟩:=co KZ;refine Xzq (v := .tuple #[cur.val,.int .i64 0]) (by simp[results,results19,go_sem,St.val,dn,ed,ea,ei,d9,ee,dy]) rfl ?_;exact⟨cur,by rw[H0.out];rfl,a8.at,⟨λ_=>d7.out,λh=>absurd H0.out h⟩,λ_=>a8.mono (by omega),cl⟩
 have q0:(0:Int)<=(i:Int):=by omega
 have q1:(i:Int)<(f.os.n:Int):=by omega
 obtain⟨bo,oo,b8,eb,z0,z1,aq⟩:=B.out.own0.at.os.ods i r;have eo:=ap.out.os.2 i r;have V:i<s.os.n:=by have:=ap.out.os.1;show i<s.os.n;exact this▸r
 have bc:Hid ((f.os.z i).ls.n=(s.os.z i).ls.n):=eo.2.1.trans (mh s i).symm;have ao:=hid eo.1;have dw:Hid (∀j,j<(f.os.z i).ls.n->((f.os.z i).ls.z j).n=(((dh s s.os.n).os.z i).ls.z j).n):=λj hj=>by rw[eo.2.2 j hj]
 have ll:=aq.le;have lc:=aq.cap;unfold maxLen at lc;have ez:(f.os.z i).ls.n<=3:=by rw[bc.out];exact(HR.out.fm.lns i V).2
 rw[b8];clear b8 eo;obtain⟨W,hW,ar⟩:∃W,wr.alloc (.cells #[.int .i64 (f.os.z i).k,.slice (f.os.z i).ls.a (f.os.z i).ls.n (f.os.z i).ls.c] 66)=W/\Below wr.heap.size wr W:=⟨_,rfl,brf.alloc nlr _⟩;have HW:Hid (wr.alloc (.cells #[.int .i64 (f.os.z i).k,.slice (f.os.z i).ls.a (f.os.z i).ls.n (f.os.z i).ls.c] 66)=W):=hW;have ay:Hid (D5 p s f g.heap.size m t cur W):=B.out.below ar;have M:Hid ((f.os.z i).ls.At W):=aq.below ar;clear hW aq;by_cases hk:(f.os.z i).k=1;rotate_left
 .have G:Hid (xw p s (i+1) cur):=HA.out.skip HR.out V (by rw[<-ao.out];exact hk);have ey:((f.os.z i).k !=1)=true:=by simpa using hk
  clear hk ao
  generalize (f.os.z i).k=KK at *
  go_wp2_with fail;rw[HW.out];go_roundw
  case rel=>exact⟨i+1,cur,by omega,by go_num,ay,G⟩
  case measure=>simp[intOf];omega
 have cj:Hid (((dh s s.os.n).os.z i).k=1):=by rw[<-ao.out];exact hk
 rw[hk] at z0 HW;clear hk ao;go_wp2_with fail;rw[HW.out];clear z0 z1 eb HW q0 q1
 go_loopw [48] (λjv S=>∃(j:Nat) (A:St),j<=(f.os.z i).ls.n/\jv = .int .i64 j/\Hid (D5 p s f g.heap.size m t A S)/\Hid ((f.os.z i).ls.At S)/\Hid (xy p s i j A)) (λjv _=>(f.os.z i).ls.n-(intOf jv).toNat)
 case atStart=>exact⟨0,cur,Qxz _,rfl,ay,M,HA.out.row⟩
 clear ay M B HA;obtain⟨j,A,hj,rfl,B,M,HB⟩:=hrel;by_cases bb:j<(f.os.z i).ls.n;rotate_left
 .have eg:j=(f.os.z i).ls.n:=by omega
  subst eg;have G:Hid (xw p s (i+1) A):=by have h:=HB.out;rw[bc.out] at h;exact h.next
  go_wp2_with fail;go_roundw
  case rel=>exact⟨i+1,A,by omega,by go_num,B,G⟩
  case measure=>simp[intOf];omega
 have q2:(0:Int)<=(j:Int):=by omega
 have q3:(j:Int)<((f.os.z i).ls.n:Int):=by omega
 obtain⟨bl,ob,b7,dl,y1,y2,y3,y4⟩:=M.out.hds j bb;rw[b7];have cp:j<(s.os.z i).ls.n:=by rw[<-bc.out];exact bb
 have HQ:Hid (pk s i j=((f.os.z i).ls.z j).n):=by show pk s i j=_;rw[dw.out j bb];exact if_pos cj.out
 have b5:Hid (jz p (-1) A i j ((f.os.z i).ls.z j).n):=by show jz _ _ _ _ _ _;rw[<-HQ.out];exact HB.out.stepIn HR.out V cp
 have ch:Hid ((A.os.z i).k=1):=((HB.out.pos HR.out V (Nat.le_of_lt cp)).al.kind i V).1.trans cj.out;have b1:Hid (fa p A i j ((f.os.z i).ls.z j).n (-1)=0):=by have I:=b5.out.allocIn ch.out;exact I.less ⟨I.n0,Int.le_refl _⟩
 have cc:Hid (∀x,lg p (-1) A i j ((f.os.z i).ls.z j).n x->xy p s i (j+1) x):=λx T=>HB.out.step (by rw[HQ.out];exact T);clear b7 b5 ch HB
 generalize (f.os.z i).ls.z j=Z at *
 obtain⟨W2,b4,ad⟩:∃W,wr.alloc (.cells #[.int .i64 Z.o,.int .i64 Z.l,.int .i64 Z.b,.int .i64 Z.n] 68)=W/\Below wr.heap.size wr W:=⟨_,rfl,brf.alloc nlr _⟩;have a4:Hid (wr.alloc (.cells #[.int .i64 Z.o,.int .i64 Z.l,.int .i64 Z.b,.int .i64 Z.n] 68)=W2):=b4;have P:Hid (D5 p s f g.heap.size m t A W2):=B.out.below ad;have be:Hid ((f.os.z i).ls.At W2):=M.out.below ad;obtain⟨⟨⟨l1,d0,d1⟩,l2,c0,c1,c2,c3,c4,c5,c6⟩,F,E,q,J⟩:=HC.out W2 P.out.bel;obtain⟨m1,p0,p1,p2,p3,p4,p5,p6⟩:=Boxed.of P.out.box;have cf:=hid F;clear b4 ad F E q J l2 c0 c1 c2 c3 c4 c5 c6 B M;rw[<-a4.out] at l1 d0 d1 m1 p0 p1 p2 p3 p4 p5 p6;go_wp2_with fail;rw[a4.out];clear a4 l1 d0 d1 m1 p0 p1 p2 p3 p4 p5 p6 dl y1 y2 y3 y4;refine(Kq p A i j Z.n (-1) W2 cf.out P.out.own.at).mono ?_;rintro e w8 ⟨x,rfl,ef,ct,bf,a9⟩;have HT:Hid (xy p s i (j+1) x):=cc.out x (ct.1 b1.out);have du:Hid (ai g.heap.size w8 x):=(bf b1.out).mono P.out.le;have u:Hid (D5 p s f g.heap.size m t A w8):=P.out.below a9;have en:Hid ((f.os.z i).ls.At w8):=be.out.below a9;have cu:=u.out.box;obtain⟨zl,b6,ce,ci,zc1,ck,zc2,bw,zc3,cn,zc4,bx,zc5,cq,b3⟩:=z7 cu;clear cu ef ct bf a9 cc P be cf
 generalize Bm p A i j Z.n (-1)=LL at *
 generalize fa p A i j Z.n (-1)=EE at *
 simp only[St.val];go_wp2_with fail;have G:Hid (D5 p s f g.heap.size m t x (set7 w8 m (.slice x.on.a x.on.n x.on.c) (.slice x.os.a x.os.n x.os.c) (.slice x.hs.a x.hs.n x.hs.c) (.slice x.ms.a x.ms.n x.ms.c) (.slice x.si.a x.si.n x.si.c) (.slice x.so.a x.so.n x.so.c) (.slice x.sf.a x.sf.n x.sf.c))/\(f.os.z i).ls.At (set7 w8 m (.slice x.on.a x.on.n x.on.c) (.slice x.os.a x.os.n x.os.c) (.slice x.hs.a x.hs.n x.hs.c) (.slice x.ms.a x.ms.n x.ms.c) (.slice x.si.a x.si.n x.si.c) (.slice x.so.a x.so.n x.so.c) (.slice x.sf.a x.sf.n x.sf.c))):=by
  have K:=s7b u.out.box x;have hb:=s7w (b:=m) u.out.bel (Qzx A1 dv) x;refine⟨⟨s7o u.out.own0 u.out.box x,s7o du.out u.out.box x,K.congr (λj hj=>by match j,hj with|0,_=>rfl|1,_=>rfl|2,_=>rfl|3,_=>rfl|4,_=>rfl|5,_=>rfl|6,_=>rfl),hb,?_⟩,?_⟩
  .have:=u.out.le
   simpa[set7] using this
  exact((s7o u.out.own0 u.out.box x).at.os.ods i r).choose_spec.choose_spec.2.2.2.2
 unfold set7 at G;go_roundw
 case rel=>exact⟨j+1,x,by omega,by go_num,G.out.1,G.out.2,HT⟩
 case measure=>simp[intOf];omega
theorem R0(x:Hd)(w:World):
  Calls prog 112 #[x.val] w λe c=>e = .returned (.bool (js x))/\Below w.heap.size w c:=by
 have a:=(Below.refl w.heap.size w).alloc nlr (.cells #[.int .i64 x.o,.int .i64 x.l,.int .i64 x.b,.int .i64 x.n] 68);unfold Hd.val;go_enter func112,ntmps112;go_wp2_with fail;go_ret;exact⟨rfl,a⟩
theorem Ts(h:Hs)(w:World)(b:h.At w):
  Calls prog 63 #[.slice h.a h.n h.c] w λe f=>e = .returned (.bool (!aw h.n (λj=>js (h.z j))))/\Below w.heap.size w f:=by
 go_enter func63,ntmps63;go_wp2_with fail;refine(Mc 112 #[] (λj=>js (h.z j)) _ _ _ _ b.le b.cap h.z b.hds (enters_of func112 (by kernel_rfl) rfl) (λi d _ _=>R0 (h.z i) d)).mono ?_;rintro e d ⟨rfl,g⟩;go_wp2_with fail;go_ret;exact⟨rfl,g⟩
theorem Ya(p:Pl)(s:St)(order line bin n:Int)(w:World)(hp:p.At w)(hs:s.At w):
  Calls prog 21 #[p.val,s.val,.int .i64 order,.int .i64 line,.int .i64 bin,.int .i64 n] w λe w'=>∃x:St,e = .returned (.tuple #[x.val,.int .i64 (ir p s order line bin n)])/\x.At w'/\dv (ir p s order line bin n) (pb p s order.toNat line.toNat bin.toNat n) x/\(ir p s order line bin n=0->ai w.heap.size w' x)/\Below w.heap.size w w':=by
 obtain⟨J,hW,i5,X0,Z0⟩:=zd w p s;have HC:=wv hp hs i5 X0 Z0;have HW:=hid hW;have leb:=hp.leb;have d6:=hp.capb;have les:=hp.les;have d7:=hp.caps;have capb:=d6;have caps:=d7;have jx:=Z0.lt;unfold maxLen at capb caps;have ka:=hs.os.le;have ix:=hs.os.cap;unfold maxLen at ix;clear hW X0 Z0 hp hs;unfold Pl.val St.val;go_enter func21,ntmps21;go_wp2_with fail;rw[HW.out];obtain⟨X,E,i,t,A⟩:=HC.out J brf;refine(lm p s J E i).mono ?_;rintro e Y ⟨rfl,hB⟩;clear X E i t A HW;obtain⟨⟨⟨l1,d0,d1⟩,l2,c0,c1,c2,c3,c4,c5,c6⟩,E,i,t,A⟩:=HC.out Y hB;by_cases h0:ah p s=0;rotate_left
 .have U:Hid (ir p s order line bin n=ah p s):=yg h0;have il:Hid (¬ir p s order line bin n=0):=by show ¬_;rw[yg h0];exact h0
  have g0:(ah p s !=0)=true:=by simpa using h0
  clear h0;clear E i;obtain⟨zl,ao,ap,aj,zc1,ar,zc2,al,zc3,av,zc4,af,zc5,ax,an⟩:=z7 A;go_wp2_with fail;exact g9 results21 A t (by omega) U.out (λh=>il.out (U.out.trans h)) rfl rfl rfl
 have H0:=hid h0;have HR:Hid (au p s):=ew h0;rw[h0];clear h0;have ex:=hid i.hs;clear E i t A;go_wp2_with fail;refine(Sk s.hs order line bin Y ex.out).mono ?_;rintro e w2 ⟨hd,rfl,fo,ef,df⟩;clear ex l1 d0 d1 l2 c0 c1 c2 c3 c4 c5 c6;rw[Qu HR.out.fm.hold,Y3 HR.out.fm.hold];have a0:=hB.trans (df.mono hB.size);have A1:J.heap.size<=Y.heap.size:=hB.size;have A2:Y.heap.size<=w2.heap.size:=df.size;have ii:=hid fo;have iw:=hid ef;obtain⟨⟨⟨l1,d0,d1⟩,l2,c0,c1,c2,c3,c4,c5,c6⟩,E,i,t,A⟩:=HC.out w2 a0;clear fo ef df hB;by_cases S:keptV s.hs.n s.hs.z order line bin=0
 .have U:Hid (ir p s order line bin n=4):=F6 H0.out S;rw[if_pos S]
  generalize keptV s.hs.n s.hs.z order line bin=KV at *
  simp only[Hs.val];clear E i;obtain⟨zl,ao,ap,aj,zc1,ar,zc2,al,zc3,av,zc4,af,zc5,ax,an⟩:=z7 A;go_wp2_with fail;exact g9 results21 A t (by omega) U.out (by decide) rfl rfl rfl
 rw[if_neg S];cases h2:inB n 0 (keptV s.hs.n s.hs.z order line bin)
 .have U:Hid (ir p s order line bin n=3):=D8 H0.out S h2;clear S
  generalize keptV s.hs.n s.hs.z order line bin=KV at *
  simp only[Hs.val];clear E i;obtain⟨zl,ao,ap,aj,zc1,ar,zc2,al,zc3,av,zc4,af,zc5,ax,an⟩:=z7 A;go_wp2_with(go_at_call 48;refine ag (cn _ _ _ _) ?_);exact g9 results21 A t (by omega) U.out (by decide) rfl rfl rfl
 obtain⟨o,l,b,rfl,rfl,rfl,hi⟩:=Mf HR.out S;have HI:=hid hi;have gd:=HI.out.good;have bd:=HI.out.bd;have nn:=aq h2;have ho:=HI.out.on;have hl:=HI.out.ln;have hb:=HI.out.bn;obtain⟨g,hg⟩:∃g,ce s o l=g:=⟨_,rfl⟩;have HG:=hid hg;rw[hg] at gd;have gl:=gd.2;obtain⟨bo,oo,cl,jf,z0,z1,bv⟩:=i.os.ods o ho;obtain⟨bl,ol,em,ip,y0,y1,y2,y3⟩:=bv.hds l hl;have ll:=bv.le;have lc:=bv.cap;unfold maxLen at lc;have son:=HR.out.fm.son;obtain⟨bs,os,c8,im,ib⟩:=i.so.ints g (by omega);have j9:=i.so.le;have gs:=i.so.cap;unfold maxLen at gs;have fp:=hid c8;have fe:=hid cl;rw[gd.1] at y0;rw[cl] at c1;rw[em] at z1;rw[c8] at c5;have q0:(0:Int)<=(o:Int):=by omega
 have q1:(o:Int)<(s.os.n:Int):=by omega
 have q2:(0:Int)<=(l:Int):=by omega
 have q3:(l:Int)<((s.os.z o).ls.n:Int):=by omega
 have q4:(0:Int)<=(g:Int):=by omega
 have sg:g<s.so.n:=by omega
 have q5:(g:Int)<(s.so.n:Int):=by omega
 have sob:=HR.out.fm.sob g gl;have gt:Hid (ev s o l b=keptV s.hs.n s.hs.z o l b):=rfl;have H1:=hid S;have H2:=hid h2;have ih:1<=keptV s.hs.n s.hs.z o l b/\keptV s.hs.n s.hs.z o l b<=200:=⟨bd.1,bd.2.1⟩;clear cl em bv c8 y1 y2 y3 z0 gd bd hi hg S son;simp only[Hs.val];by_cases h3:1048576<s.so.z g+n
 .have U:Hid (ir p s o l b n=2):=Ft H0.out H1.out H2.out (by show 1048576<s.so.z (ce s o l)+n;rw[HG.out];exact h3);have e9:1048576-s.so.z g<n:=by omega
  generalize keptV s.hs.n s.hs.z o l b=KV at *
  clear h3;clear E i;obtain⟨zl,ao,ap,aj,zc1,ar,zc2,al,zc3,av,zc4,af,zc5,ax,an⟩:=z7 A;go_wp2_with(go_at_call 48;refine ag (cn _ _ _ _) ?_);exact g9 results21 A t (by omega) U.out (by decide) rfl rfl rfl
 have U:Hid (ir p s o l b n=0):=P5 H0.out H1.out H2.out (by show ¬1048576<s.so.z (ce s o l)+n;rw[HG.out];exact h3);have dn:Hid (k9 p s o l b n):=by
  have h:=Lm U.out;obtain⟨-,o',l',b',e1,e2,e3,h⟩:=h;have bh:o'=o:=by omega
  have hw:l'=l:=by omega
  have hn:b'=b:=by omega
  rw[bh,hw,hn] at h;exact h
 have e9:¬1048576-s.so.z g<n:=by omega
 have eh:Hid (hd.n=(mn s.hs o l b).n/\∀j,j<hd.n->hd.z j=(mn s.hs o l b).z j):=by
  have k:=iw.out;unfold V5 at k;rw[Qu HR.out.fm.hold,if_neg (show ¬keptV s.hs.n s.hs.z o l b=0 from H1.out),if_pos rfl] at k;exact k
 have er:Hid (Calls prog 51 #[s.val] w2 λe w'=>∃s':St,e = .returned s'.val/\ae s' s/\ai w2.heap.size w' s'/\Below w2.heap.size w2 w'):=nf p s w2 i HR.out.fm;obtain⟨K,hK⟩:∃K,keptV s.hs.n s.hs.z o l b=K:=⟨_,rfl⟩;have HK:Hid (ev s o l b=K):=hK;rw[hK] at ih h2 nn ⊢;clear E i t A hK h3 gt;go_wp2_with(go_at_call 48;refine ag (cn _ _ _ _) ?_);rw[<-fe.out,<-fp.out];refine Calls.mono er.out ?_;rintro e T ⟨d,rfl,q,db,b0⟩;clear er l1 d0 d1 l2 c0 c1 c2 c3 c4 c5 c6 z1 jf ip im y0 ib h2 e9 fe fp;have P:o<d.os.n:=by rw[q.os.1];exact ho
 have xk:=q.os.2 o P;have fn:l<(d.os.z o).ls.n:=by rw[xk.2.1];exact hl
 have bx:b<d.on.n:=by rw[q.on.1,HR.out.fm.sh.n];exact hb
 have g8:g<(d.on.r b).n:=by rw[(q.on.2 b bx).1,HR.out.fm.sh.len b (by rw[HR.out.fm.sh.n];exact hb)];exact gl
 have fg:g<d.so.n:=by rw[q.so.1];exact sg
 have gx:=hid q;have fb:Hid ((0<=(d.on.r b).z g/\(d.on.r b).z g<=200)/\(0<=d.so.z g/\d.so.z g<=1048576)/\(0<=((d.os.z o).ls.z l).b/\((d.os.z o).ls.z l).b<=200)/\0<=((d.os.z o).ls.z l).n/\((d.os.z o).ls.z l).n<=200):=by
  have f:=HR.out.fm;have bl:=dz (f.line o ho l hl);refine⟨?_,?_,?_⟩
  .rw[q.num f hb gl];exact f.sh.num b (by rw[f.sh.n];exact hb) g gl
  .rw[q.so.2 g fg];exact f.sob g gl
  rw[q.line ho hl];omega
 have v0:=fb.out;obtain⟨B,eo,bq,K5⟩:∃W,T.alloc (.cells #[.slice d.on.a d.on.n d.on.c,.slice d.os.a d.os.n d.os.c,.slice hd.a hd.n hd.c,.slice d.ms.a d.ms.n d.ms.c,.slice d.si.a d.si.n d.si.c,.slice d.so.a d.so.n d.so.c,.slice d.sf.a d.sf.n d.sf.c] 31)=W/\Below T.heap.size T W/\Blk W T.heap.size 31 7 (λj=>(withHolds d hd).cells.getD j default):=⟨_,rfl,brf.alloc nlr _,Blk.mk' rfl rfl⟩;have cp:Hid (T.alloc (.cells #[.slice d.on.a d.on.n d.on.c,.slice d.os.a d.os.n d.os.c,.slice hd.a hd.n hd.c,.slice d.ms.a d.ms.n d.ms.c,.slice d.si.a d.si.n d.si.c,.slice d.so.a d.so.n d.so.c,.slice d.sf.a d.sf.n d.sf.c] 31)=B):=eo;have bc:=b0.trans (bq.mono b0.size);have e8:=a0.trans (bc.mono a0.size);have A3:w2.heap.size<=T.heap.size:=b0.size;have M:Hid (dg Y.heap.size T.heap.size J (withHolds d hd) B):=⟨((ai.below db bq).mono A2).withHolds (ii.out.below bc),K5,e8,by have:=bc.size;omega⟩;clear eo db K5 b0 bq bc e8 q a0 xk fb
 -- what lies there
 obtain⟨g0,G,a1,a2,a3,a4,a5,a6,a7,a8,a9,fk,fi,ey⟩:=M.out.own.onCell bx g8;have u0:B.cell? ⟨T.heap.size,0,none⟩=some (.slice d.on.a d.on.n d.on.c):=M.out.box.k 0;have e0:=M.out.box.lt;have ek:d.on.a=some ⟨g0,0,none⟩:=a1;have ei:B.cell? ⟨g0,b,none⟩=some (.slice (some ⟨G,0,none⟩) (d.on.r b).n (d.on.r b).c):=a3;have km:(d.on.r b).n<=(d.on.r b).c:=a7;have i1:(d.on.r b).c<=maxLen:=a8;have fl:B.cell? ⟨G,g,none⟩=some (.int .i64 ((d.on.r b).z g)):=a9;have jo:d.on.n<=d.on.c:=fi;have fu:d.on.c<=maxLen:=ey;have dt:=fk g;rw[ek] at u0;unfold maxLen at i1 fu;have r0:(0:Int)<=(b:Int):=by omega
 have r1:(b:Int)<(d.on.n:Int):=by omega
 have r2:(g:Int)<((d.on.r b).n:Int):=by omega
 have fh:=M.out.own.setOn (b:=b) bx a4 g ((d.on.r b).z g-n);have GB:Blk B G 3 (d.on.r b).n (λj => .int .i64 ((d.on.r b).z j)):=by
  obtain⟨Gq,b1,b2,b3,b4,b5⟩:=M.out.own.rows b bx;rw[a4] at b1;simp only[Qkx,Qkz,and_true] at b1;subst b1;exact b5
 have L:Hid (dg Y.heap.size T.heap.size J (setOn (withHolds d hd) b g ((d.on.r b).z g-n)) (B.setCell ⟨G,g,none⟩ (.int .i64 ((d.on.r b).z g-n)))):=⟨fh,M.out.box.other (a:=⟨G,g,none⟩) (Blk.ne2 M.out.box GB (by decide)) _,M.out.bel.setCell (p:=⟨G,g,none⟩) (by show J.heap.size<=G;omega) _,by have:=M.out.le;simpa using this⟩;clear a1 ek a3 a4 a5 a7 a8 a9 fk fi ey fh GB
 -- what went
 obtain⟨F,e1,e2,e3,e4,e5,e6,e7⟩:=L.out.own.so.cellAt (g:=g) fg;have bh:d.so.a=some ⟨F,0,none⟩:=e1;have u5:(B.setCell ⟨G,g,none⟩ (.int .i64 ((d.on.r b).z g-n))).cell? ⟨T.heap.size,5,none⟩=some (.slice d.so.a d.so.n d.so.c):=L.out.box.k 5;have fj:=L.out.box.lt;rw[bh] at u5;have kj:d.so.n<=d.so.c:=e4;have hf:d.so.c<=maxLen:=e5;have eg:(B.setCell ⟨G,g,none⟩ (.int .i64 ((d.on.r b).z g-n))).cell? ⟨F,g,none⟩=some (.int .i64 (d.so.z g)):=e6;unfold maxLen at hf;have eu:=e7 g;have r3:(g:Int)<(d.so.n:Int):=by omega
 have GB:Blk (B.setCell ⟨G,g,none⟩ (.int .i64 ((d.on.r b).z g-n))) F 3 d.so.n (λj => .int .i64 (d.so.z j)):=by
  obtain⟨Gq,b1,b2,b3,b4,b5⟩:=L.out.own.so;have c9:d.so.a=some ⟨Gq,0,none⟩:=b1;rw[bh] at c9;simp only[Qkx,Qkz,and_true] at c9;subst c9;exact b5
 have H:Hid (dg Y.heap.size T.heap.size J (setOut (setOn (withHolds d hd) b g ((d.on.r b).z g-n)) g (d.so.z g+n)) ((B.setCell ⟨G,g,none⟩ (.int .i64 ((d.on.r b).z g-n))).setCell ⟨F,g,none⟩ (.int .i64 (d.so.z g+n)))):=⟨L.out.own.setOut e1 g _,L.out.box.other (a:=⟨F,g,none⟩) (Blk.ne2 L.out.box GB (by decide)) _,L.out.bel.setCell (p:=⟨F,g,none⟩) (by show J.heap.size<=F;omega) _,by have:=L.out.le;simpa using this⟩;clear e1 bh e2 e4 e5 e6 e7 GB L
 -- the line
 obtain⟨gO,m,f1,f2,f3,f4,f5,f6,f7,f8,f9,bp,dw,cc,b6,bg⟩:=H.out.own.lineCell (o:=o) (l:=l) P fn;have ac:d.os.a=some ⟨gO,0,none⟩:=f1;have u1:((B.setCell ⟨G,g,none⟩ (.int .i64 ((d.on.r b).z g-n))).setCell ⟨F,g,none⟩ (.int .i64 (d.so.z g+n))).cell? ⟨T.heap.size,1,none⟩=some (.slice d.os.a d.os.n d.os.c):=H.out.box.k 1;have eTz:=H.out.box.lt;rw[ac] at u1;have cr:=hid ac;have am:Hid ((d.os.z o).ls.a=some ⟨m,0,none⟩):=f5;have ff:((B.setCell ⟨G,g,none⟩ (.int .i64 ((d.on.r b).z g-n))).setCell ⟨F,g,none⟩ (.int .i64 (d.so.z g+n))).cell? ⟨gO,o*2+1,none⟩=some (.slice (some ⟨m,0,none⟩) (d.os.z o).ls.n (d.os.z o).ls.c):=f4;have kg:(d.os.z o).ls.n<=(d.os.z o).ls.c:=f8;have hm:(d.os.z o).ls.c<=maxLen:=f9;have dq:((B.setCell ⟨G,g,none⟩ (.int .i64 ((d.on.r b).z g-n))).setCell ⟨F,g,none⟩ (.int .i64 (d.so.z g+n))).cell? ⟨m,l*4+2,none⟩=some (.int .i64 ((d.os.z o).ls.z l).b):=b6;have ki:d.os.n<=d.os.c:=H.out.own.os.le;have hv:d.os.c<=maxLen:=H.out.own.os.cap;unfold maxLen at hm hv;have dr:=bp (l*4+2);have r4:(o:Int)<(d.os.n:Int):=by omega
 have r5:(l:Int)<((d.os.z o).ls.n:Int):=by omega
 obtain⟨Bq,aa,ha,-,-,bk⟩:=H.out.own.os.lines o P;have Q:(d.os.z o).ls.a=some ⟨Bq,0,none⟩:=aa;rw[am.out] at Q;simp only[Qkx,Qkz,and_true] at Q;subst Q;have V:Hid (dg Y.heap.size T.heap.size J (setLine (setOut (setOn (withHolds d hd) b g ((d.on.r b).z g-n)) g (d.so.z g+n)) o l 2 (((d.os.z o).ls.z l).b+n)) (((B.setCell ⟨G,g,none⟩ (.int .i64 ((d.on.r b).z g-n))).setCell ⟨F,g,none⟩ (.int .i64 (d.so.z g+n))).setCell ⟨m,l*4+2,none⟩ (.int .i64 (((d.os.z o).ls.z l).b+n)))):=⟨H.out.own.setLine (o:=o) P am.out l 2 (by decide) _,H.out.box.other (a:=⟨m,l*4+2,none⟩) (Blk.ne2 H.out.box bk (by decide)) _,H.out.bel.setCell (p:=⟨m,l*4+2,none⟩) (by show J.heap.size<=m;omega) _,by have:=H.out.le;simpa using this⟩;clear f1 ac f2 f4 f5 f6 f8 f9 bp dw cc b6 bg aa bk H;have g5:l<((setLine (setOut (setOn (withHolds d hd) b g ((d.on.r b).z g-n)) g (d.so.z g+n)) o l 2 (((d.os.z o).ls.z l).b+n)).os.z o).ls.n:=by rw[(dp o).1];exact fn
 obtain⟨gr,jd,f1,f2,g3,f4,f5,f6,g7,f8,f9,bp,dw,cc,b6,bg⟩:=V.out.own.lineCell (o:=o) (l:=l) P g5;have ac:d.os.a=some ⟨gr,0,none⟩:=f1;rw[cr.out] at ac;simp only[Qkx,Qkz,and_true] at ac;subst ac;rw[(dp o).2.1] at f5;have cq:(d.os.z o).ls.a=some ⟨jd,0,none⟩:=f5;rw[am.out] at cq;simp only[Qkx,Qkz,and_true] at cq;subst cq;rw[(dp o).1,(dp o).2.2] at f4;have el:(((B.setCell ⟨G,g,none⟩ (.int .i64 ((d.on.r b).z g-n))).setCell ⟨F,g,none⟩ (.int .i64 (d.so.z g+n))).setCell ⟨m,l*4+2,none⟩ (.int .i64 (((d.os.z o).ls.z l).b+n))).cell? ⟨gO,o*2+1,none⟩=some (.slice (some ⟨m,0,none⟩) (d.os.z o).ls.n (d.os.z o).ls.c):=f4;rw[oq,if_pos ⟨rfl,rfl⟩] at bg;have ds:(((B.setCell ⟨G,g,none⟩ (.int .i64 ((d.on.r b).z g-n))).setCell ⟨F,g,none⟩ (.int .i64 (d.so.z g+n))).setCell ⟨m,l*4+2,none⟩ (.int .i64 (((d.os.z o).ls.z l).b+n))).cell? ⟨m,l*4+3,none⟩=some (.int .i64 ((d.os.z o).ls.z l).n):=bg;have da:=bp (l*4+3);have cy:Hid (((setLine (setOut (setOn (withHolds d hd) b g ((d.on.r b).z g-n)) g (d.so.z g+n)) o l 2 (((d.os.z o).ls.z l).b+n)).os.z o).ls.a=some ⟨m,0,none⟩):=by show _=_;rw[(dp o).2.1];exact am.out
 obtain⟨Bq,aa,ha,-,-,bk⟩:=V.out.own.os.lines o P;have Q:=aa;rw[cy.out] at Q;simp only[Qkx,Qkz,and_true] at Q;subst Q;have bt:Hid (dg Y.heap.size T.heap.size J (uj d hd o l b g n K) ((((B.setCell ⟨G,g,none⟩ (.int .i64 ((d.on.r b).z g-n))).setCell ⟨F,g,none⟩ (.int .i64 (d.so.z g+n))).setCell ⟨m,l*4+2,none⟩ (.int .i64 (((d.os.z o).ls.z l).b+n))).setCell ⟨m,l*4+3,none⟩ (.int .i64 (((d.os.z o).ls.z l).n+(K-n))))):=⟨V.out.own.setLine (o:=o) P cy.out l 3 (by decide) _,V.out.box.other (a:=⟨m,l*4+3,none⟩) (Blk.ne2 V.out.box bk (by decide)) _,V.out.bel.setCell (p:=⟨m,l*4+3,none⟩) (by show J.heap.size<=m;omega) _,by have:=V.out.le;simpa using this⟩;clear f1 f2 f4 f5 f6 f8 f9 bp dw cc b6 bg aa bk V;have ak:Hid (ae (uj d hd o l b g n K) (ch s o l b n)):=by have h:=Gl (n:=n) gx.out HI.out eh.out.1 eh.out.2;rw[HG.out,HK.out] at h;exact h
 have yk:((uj d hd o l b g n K).os.z o).ls.n=(d.os.z o).ls.n/\((uj d hd o l b g n K).os.z o).ls.a=(d.os.z o).ls.a/\((uj d hd o l b g n K).os.z o).ls.c=(d.os.z o).ls.c:=by
  unfold uj;rw[(dp o).1,(dp o).1,(dp o).2.1,(dp o).2.1,(dp o).2.2,(dp o).2.2];exact⟨rfl,rfl,rfl⟩
 have bf:=hid yk;obtain⟨gq,S,d2,h3,h4,h5,h6⟩:=bt.out.own.orderCells (o:=o) P;have cf:d.os.a=some ⟨gq,0,none⟩:=S;rw[cr.out] at cf;simp only[Qkx,Qkz,and_true] at cf;subst cf;rw[yk.1,yk.2.1,yk.2.2,am.out] at h5;have ez:Hid (Hs.At ((((B.setCell ⟨G,g,none⟩ (.int .i64 ((d.on.r b).z g-n))).setCell ⟨F,g,none⟩ (.int .i64 (d.so.z g+n))).setCell ⟨m,l*4+2,none⟩ (.int .i64 (((d.os.z o).ls.z l).b+n))).setCell ⟨m,l*4+3,none⟩ (.int .i64 (((d.os.z o).ls.z l).n+(K-n)))) ((uj d hd o l b g n K).os.z o).ls):=by
  obtain⟨_,_,_,_,_,_,h⟩:=bt.out.own.at.os.ods o P;exact h
 have fc:Hid (Calls prog 63 #[.slice (some ⟨m,0,none⟩) (d.os.z o).ls.n (d.os.z o).ls.c] ((((B.setCell ⟨G,g,none⟩ (.int .i64 ((d.on.r b).z g-n))).setCell ⟨F,g,none⟩ (.int .i64 (d.so.z g+n))).setCell ⟨m,l*4+2,none⟩ (.int .i64 (((d.os.z o).ls.z l).b+n))).setCell ⟨m,l*4+3,none⟩ (.int .i64 (((d.os.z o).ls.z l).n+(K-n)))) λe w'=>e = .returned (.bool (j5 (uj d hd o l b g n K) o))/\Below ((((B.setCell ⟨G,g,none⟩ (.int .i64 ((d.on.r b).z g-n))).setCell ⟨F,g,none⟩ (.int .i64 (d.so.z g+n))).setCell ⟨m,l*4+2,none⟩ (.int .i64 (((d.os.z o).ls.z l).b+n))).setCell ⟨m,l*4+3,none⟩ (.int .i64 (((d.os.z o).ls.z l).n+(K-n)))).heap.size ((((B.setCell ⟨G,g,none⟩ (.int .i64 ((d.on.r b).z g-n))).setCell ⟨F,g,none⟩ (.int .i64 (d.so.z g+n))).setCell ⟨m,l*4+2,none⟩ (.int .i64 (((d.os.z o).ls.z l).b+n))).setCell ⟨m,l*4+3,none⟩ (.int .i64 (((d.os.z o).ls.z l).n+(K-n)))) w'):=by
  have h:=Ts ((uj d hd o l b g n K).os.z o).ls ((((B.setCell ⟨G,g,none⟩ (.int .i64 ((d.on.r b).z g-n))).setCell ⟨F,g,none⟩ (.int .i64 (d.so.z g+n))).setCell ⟨m,l*4+2,none⟩ (.int .i64 (((d.os.z o).ls.z l).b+n))).setCell ⟨m,l*4+3,none⟩ (.int .i64 (((d.os.z o).ls.z l).n+(K-n)))) ez.out;rw[bf.out.1,bf.out.2.1,bf.out.2.2,am.out] at h;have e:j5 (uj d hd o l b g n K) o = !aw (d.os.z o).ls.n (λj=>js (((uj d hd o l b g n K).os.z o).ls.z j)):=by unfold j5;rw[bf.out.1]
  rw[e];exact h
 clear yk S d2 h4 h6 ez;rw[<-cp.out] at u0 e0 a2 ei a6 fl dt u5 fj e3 eg eu u1 eTz f3 ff f7 dq dr g3 el g7 ds da h3 h5;simp only[St.val];go_wp2_with fail;rw[cp.out];clear u0 e0 a2 ei a6 fl dt u5 fj e3 eg eu u1 eTz f3 ff f7 dq dr g3 el g7 ds da h3 h5 cp M;refine Calls.mono fc.out ?_;rintro e wx ⟨rfl,en⟩;have D:=hid (bt.out.below en);clear fc bt en
 generalize T.heap.size=B7 at *
 have cj:Hid (j5 (uj d hd o l b g n K) o=j5 (ch s o l b n) o):=Ek ak.out ho;obtain⟨y,hy⟩:∃y,uj d hd o l b g n K=y:=⟨_,rfl⟩;have yo:y.os.a=d.os.a/\y.os.n=d.os.n/\y.os.c=d.os.c:=by rw[<-hy];exact⟨rfl,rfl,rfl⟩
 have dc:Hid (y.os.a=some ⟨gO,0,none⟩):=by show y.os.a=_;rw[yo.1];exact cr.out
 have dx:o<y.os.n:=by rw[yo.2.1];exact P
 rw[hy] at D ak cj ⊢;clear hy yo bf;cases bz:j5 y o;rotate_left
 .have hk:Hid (j5 (ch s o l b n) o=true):=cj.out.symm.trans bz;clear bz;obtain⟨gq,S,d2,h3,h4,h5,h6⟩:=D.out.own.orderCells (o:=o) dx;rw[dc.out] at S;simp only[Qkx,Qkz,and_true] at S;subst S;have kd:=h6 (o*2);obtain⟨gq,b1,b2,b3⟩:=D.out.own.os.list (by omega);rw[dc.out] at b1;simp only[Qkx,Qkz,and_true] at b1;subst b1;have ge:gO≠B7:=Blk.ne2 b3 D.out.box (by decide);have bw:Hid (dg Y.heap.size B7 J (di y o 2) (wx.setCell ⟨gO,o*2,none⟩ (.int .i64 2))):=⟨D.out.own.kind (o:=o) dx dc.out 2,D.out.box.other (a:=⟨gO,o*2,none⟩) ge.symm _,D.out.bel.setCell (p:=⟨gO,o*2,none⟩) (by show J.heap.size<=gO;omega) _,by have:=D.out.le;simpa using this⟩;have bu:Hid (ae (di y o 2) (pb p s o l b n)):=by
   unfold pb;rw[hk.out,if_pos rfl];exact Gf ak.out o 2
  generalize di y o 2=x at bw bu
  obtain⟨m1,p0,p1,p2,p3,p4,p5,p6⟩:=Boxed.of bw.out.box;obtain⟨-,-,-,t,A⟩:=HC.out _ bw.out.bel;have HZ:=qa2 t A;obtain⟨zl,ao,ap,aj,zc1,ar,zc2,al,zc3,av,zc4,af,zc5,ax,an⟩:=z7 A;have fq:=(HC.out _ brf).2.2.2.1.size;clear d2 h5 h6 b2 b3 t A D
  generalize (y.os.z o).k=KK at *
  go_wp2_with fail;have KZ:=s7b HZ.out.2 x;have bm:=s7w (b:=w.heap.size+2) HZ.out.1 (by omega) x;have ad:=s7o bw.out.own HZ.out.2 x;unfold set7 at KZ bm ad;obtain⟨ci,dd,dy,dk,c7,de,cu⟩:=co KZ;refine Xzq (v := .tuple #[x.val,.int .i64 0]) (by simp[results,results21,go_sem,St.val,ci,dd,dy,dk,c7,de,cu]) rfl ?_;exact⟨x,by rw[U.out];rfl,ad.at,⟨λ_=>bu.out,λh=>absurd U.out h⟩,λ_=>ad.mono (by omega),bm⟩
 have ej:Hid (j5 (ch s o l b n) o=false):=cj.out.symm.trans bz;have iy:Hid (jz p b y o l (K-n)):=by have h:=(dn.out.stepIn ej.out).same ak.out;rw[HK.out] at h;exact h
 have jb:Hid ((y.os.z o).k=1):=(ak.out.os.2 o dx).1.trans ((mu s o l b n o).1.trans HI.out.kind);have cd:Hid (fa p y o l (K-n) b=0):=by have I:=iy.out.allocIn jb.out;exact I.less ⟨I.n0,Int.le_refl _⟩
 clear bz;obtain⟨⟨⟨l1,d0,d1⟩,l2,c0,c1,c2,c3,c4,c5,c6⟩,E,i,t,A⟩:=HC.out wx D.out.bel;obtain⟨m1,p0,p1,p2,p3,p4,p5,p6⟩:=Boxed.of D.out.box;have ep:=hid E;clear E i t A l2 c0 c1 c2 c3 c4 c5 c6;go_wp2_with fail;clear l1 d0 d1 m1 p0 p1 p2 p3 p4 p5 p6;refine(Kq p y o l (K-n) b wx ep.out D.out.own.at).mono ?_;rintro e wt ⟨x,rfl,ie,fd,dj,es⟩;have HT:Hid (lg p b y o l (K-n) x):=fd.1 cd.out;have hc:Hid (ai Y.heap.size wt x):=(dj cd.out).mono D.out.le;have ay:=hid (D.out.below es);have u:=ay.out.box;have bl0:=u.lt;have j4:=u.frozen 0;have j8:=u.k 0;have kh:=u.frozen 1;have ko:=u.k 1;have j6:=u.frozen 2;have kn:=u.k 2;have j7:=u.frozen 3;have kl:=u.k 3;have kb:=u.frozen 4;have j3:=u.k 4;have kk:=u.frozen 5;have ke:=u.k 5;have kc:=u.frozen 6;have kf:=u.k 6;rw[cd.out];clear ie fd dj es ep u
 generalize Bm p y o l (K-n) b=LL at *
 obtain⟨-,-,-,t,A⟩:=HC.out wt ay.out.bel;have HZ:=qa2 t A;have fq:=(HC.out _ brf).2.2.2.1.size;have jg:B7≠w.heap.size+2:=by have:=ay.out.box.lt;omega
 have KX:=s7b ay.out.box x;have cg:=ww A (λe=>jg e.symm) (.slice x.on.a x.on.n x.on.c) (.slice x.os.a x.os.n x.os.c) (.slice x.hs.a x.hs.n x.hs.c) (.slice x.ms.a x.ms.n x.ms.c) (.slice x.si.a x.si.n x.si.c) (.slice x.so.a x.so.n x.so.c) (.slice x.sf.a x.sf.n x.sf.c);obtain⟨i9,g6,g4,jh,i2,io,ja⟩:=co KX;have xm:=KX.lt;obtain⟨zl,ao,ap,aj,zc1,ar,zc2,al,zc3,av,zc4,af,zc5,ax,an⟩:=z7 cg;have he:Hid (Below J.heap.size J (set7 wt B7 (.slice x.on.a x.on.n x.on.c) (.slice x.os.a x.os.n x.os.c) (.slice x.hs.a x.hs.n x.hs.c) (.slice x.ms.a x.ms.n x.ms.c) (.slice x.si.a x.si.n x.si.c) (.slice x.so.a x.so.n x.so.c) (.slice x.sf.a x.sf.n x.sf.c))):=s7w (b:=B7) ay.out.bel (by omega) x;have ig:Hid (ai Y.heap.size (set7 wt B7 (.slice x.on.a x.on.n x.on.c) (.slice x.os.a x.os.n x.os.c) (.slice x.hs.a x.hs.n x.hs.c) (.slice x.ms.a x.ms.n x.ms.c) (.slice x.si.a x.si.n x.si.c) (.slice x.so.a x.so.n x.so.c) (.slice x.sf.a x.sf.n x.sf.c)) x):=s7o hc.out ay.out.box x;have eq:=hid cg;have bu:Hid (ae x (pb p s o l b n)):=by
  unfold pb;rw[ej.out,if_neg (by decide)];have tk:=wy (but:=(b:Int)) dn.out.takeIn;have T':=HT.out;rw[<-HK.out] at T';exact lg.same dn.out.takeIn ak.out tk T'
 clear t A KX cg;unfold set7 at i9 g6 g4 jh i2 io ja xm zl ao aj ar al av af ax ap zc1 zc2 zc3 zc4 zc5 an;simp only[St.val];go_wp2_with fail;have KZ:=s7b eq.out x;have bm:=s7w (b:=w.heap.size+2) ((HC.out _ he.out).2.2.2.1) (by omega) x;have ad:=s7o ig.out eq.out x;unfold set7 at KZ bm ad;obtain⟨ci,dd,dy,dk,c7,de,cu⟩:=co KZ;refine Xzq (v := .tuple #[x.val,.int .i64 0]) (by simp[results,results21,go_sem,St.val,ci,dd,dy,dk,c7,de,cu]) rfl ?_;exact⟨x,by rw[U.out];rfl,ad.at,⟨λ_=>bu.out,λh=>absurd U.out h⟩,λ_=>ad.mono (by omega),bm⟩
def Ie(o:Oper):Bool:=yf o||match o.op with
 | .extract ..=>true
 | .build ..=>true
 | .field ..=>true
 | .index ..=>true
 | .unOp ..=>true
 | _=>false
theorem Si{o:Oper}{ρ:Operand->Value}{b:World}{n:Next}(a:Ie o=true)(h:(execOp ρ o).run P w = .ok n b):∃v,n = .value v:=by
 unfold Ie at a;rw[Bool.or_eq_true] at a;rcases a with a|a
 .exact Be a h
 unfold execOp at h
 split at a
 all_goals first
  | (cases a;done)
  | (rename_i hx;rw[hx] at h;exact Wx h)
theorem E9{P:Program}{l:List Oper}{Q:Exit->Act->World->Prop}{S:World->Prop}{T:Nat->Bool}{N:Nat}{K:Act->Prop}{w:World}{fuel:Nat}(hs:Region.noSelect l.toArray=true)(f:S w)(r:∀c a a' w,Q (.panic c) a w->Q (.panic c) a' w):
  ∀(d:List Nat) (os:List Oper) (b:Array Bool) (a:Act),se l.toArray d b=true->(∀k∈d,T k=false/\∀j,T j=true->rv l.toArray N j k=true)->ni l.toArray b->d.map (λk=>l[k]?)=os.map some->(os.all Ie)=true ->
   wpQuiet P l.toArray S K os a->(∀a,K a->ni l.toArray (ip b d)->nk P l.toArray Q S T fuel (ip b d) a w)->nk P l.toArray Q S T (d.length+fuel) b a w
 | [],[],b,a,_,_,hc,_,_,h,hK=>by rw[List.length_nil,Nat.zero_add];exact hK a h hc
 | k :: d,o :: os,b,a,hB,hTk,hc,hk,hv,h,hK=>by
  simp only[List.map_cons,List.cons.injEq] at hk;simp only[List.all_cons,Xxx] at hv;simp only[se,Xxx] at hB;rw[List.length_cons,Nat.add_right_comm];have e:k∈Region.ready .any l.toArray b:=by simpa using hB.1.1
  have go:∀v,YieldsIf P l.toArray S o v a->nk P l.toArray Q S T (d.length+fuel) (b.setIfInBounds k true) (a.put o.dst v) w->nk P l.toArray Q S T (d.length+fuel+1) b a w :=
   λv s y=>Hl (N:=N) (by simpa using hk.1) (Region.noSelect_spec hs) (λc a w i=>r _ _ _ _ i) (hTk k (by simp)).2 (hTk k (by simp)).1 _ b a w (Region.free_spec (by simpa using hk.1) hB.1.2) e hc s f y
  have again:=λ(a:Act) (i:wpQuiet P l.toArray S K os a)=>E9 (N:=N) (T:=T) (fuel:=fuel) hs f r d os _ a hB.2 (λt p=>hTk t (by simp[p])) (hc.set e) hk.2 hv.2 i hK;unfold wpQuiet at h
  split at h
  .rename_i g;obtain⟨v,z,A⟩:=h;refine go v (.inl ⟨g,λq f => ?_⟩) (again _ A);have:=z q f;unfold Oper.quietAt at this;cases m:(execOp a.eval o).run P q with
   | ok n w2 =>
    rw[m] at this;obtain⟨u,rfl⟩:=Si hv.1 m;simp only[Oper.quietUpon] at this;rw[this.1,this.2]
   | halt x w2=>rw[m] at this;exact this.elim
  rename_i g;exact go undef (.inr ⟨by simpa using g,rfl⟩) (again _ h)
 | [],_ :: _,_,_,_,_,_,hk,_,_,_=>by simp at hk
 | _ :: _,[],_,_,_,_,_,hk,_,_,_=>by simp at hk
def Es(n:Nat)(listed:Array Bool):List Nat:=(List.range n).filter (λi => !listed.getD i true)
def phB(ops:Array Oper):List (Bool × List Nat × Option Nat)->Array Bool->Bool
 | [],listed=>Region.ready .any ops listed==[]
 | (t,ks,c) :: r,listed=>se ops ks listed&&ks.all (λk=>decide (k<ops.size))&&ks.all (λk => !(Es ops.size (ip listed ks)).contains k)&&(!t||ks.all (λk=>(Es ops.size (ip listed ks)).all (λj=>rv ops ops.size j k))) &&
   (match c with|some c=>(Region.ready .any ops (ip listed ks)==[c])&&phB ops r ((ip listed ks).setIfInBounds c true)|none=>phB ops r (ip listed ks))
def phN:List (Bool × List Nat × Option Nat)->Nat
 | []=>0
 | (_,ks,some _) :: r=>ks.length+(phN r+1)
 | (_,ks,none) :: r=>ks.length+phN r
def Tx(P:Program)(l:List Oper)(Q:Exit->Act->World->Prop):List (Bool × List Nat × Option Nat)->Act->World->Prop
 | [],a,w=>Q .normal a w
 | (t,ks,some c) :: r,a,w=>∃S:World->Prop,S w/\(t=false->∀w',S w')/\wpQuiet P l.toArray S (λa1=>wpOp P l.toArray Q c (λa2 w2=>Tx P l Q r a2 w2) a1 w) (dw l ks) a
 | (t,ks,none) :: r,a,w=>∃S:World->Prop,S w/\(t=false->∀w',S w')/\wpQuiet P l.toArray S (λa1=>Tx P l Q r a1 w) (dw l ks) a
theorem Gx{P:Program}{c:Array Oper}{Q:Exit->Act->World->Prop}{S:World->Prop}{T:Nat->Bool}:∀(fuel:Nat) (b:Array Bool) (a:Act) (w:World),(∀i,b.getD i true=false->i<c.size->T i=true\/∀w,S w)->wpAny P .any c Q fuel b a w->nk P c Q S T fuel b a w
 | 0,_,_,_,_,h=>h
 | fuel+1,b,a,w,hT,h=>⟨h.1,λi hi=>wpOp_mono (λp k l=>⟨λd=>by
   obtain⟨m,o,n,_⟩:=mem_ready.1 hi;rcases hT i m (Qkq n).1 with e|e
   .rw[e] at d;cases d
   .exact e k,Gx fuel _ p k (λj f g=>hT j (by
   by_cases e:i=j
   .subst e;exact(mem_ready.1 hi).1
   rw[getD_set_ne true e] at f;exact f) g) l⟩) (h.2 i hi)⟩
theorem Ke{P:Program}{l:List Oper}{Q:Exit->Act->World->Prop}(hs:Region.noSelect l.toArray=true)(u:∀c a a' w,Q (.panic c) a w->Q (.panic c) a' w):∀(s:List (Bool × List Nat × Option Nat)) (b:Array Bool) (a:Act) (w:World),
   phB l.toArray s b=true->(s.all (λx=>(dw l x.2.1).all Ie))=true->ni l.toArray b->Tx P l Q s a w->wpAny P .any l.toArray Q (phN s) b a w
 | [],b,a,w,hB,_,_,h=>⟨by simpa[phB] using hB,h⟩
 | (t,ks,c) :: r,b,a,w,hB,hv,hcl,h=>by
  simp only[phB,Xxx] at hB;obtain⟨⟨⟨⟨b1,b2⟩,b3⟩,b4⟩,b5⟩:=hB;simp only[List.all_cons,Xxx] at hv;have key:=λ(S:World->Prop) (K:Act->Prop) (f:Nat) (o:S w) (g:t=false->∀w',S w') (p:wpQuiet P l.toArray S K (dw l ks) a) (B:∀a1,K a1->ni l.toArray (ip b ks)->wpAny P .any l.toArray Q f (ip b ks) a1 w)=>Ab _ _ _ _ (E9 (P:=P) (Q:=Q) (S:=S) (T:=λi=>t&&(Es l.toArray.size (ip b ks)).contains i) (N:=l.toArray.size) (fuel:=f) (w:=w) hs o u ks (dw l ks) b a b1
   (λk y=>⟨by
    have:=List.all_eq_true.1 b3 k y;rw[Bool.not_eq_true'] at this;rw[this,Bool.and_false],λj v=>by
    rw[Xxx] at v;have n:=b4;rw[v.1] at n;simp only[Bool.not_true,Bool.false_or] at n;exact List.all_eq_true.1 (List.all_eq_true.1 n k y) j (by simpa using v.2)⟩)
   hcl (Ao (by simpa using b2)) hv.1 p (λa1 q d=>by
    refine Gx _ _ _ _ (λi hi A => ?_) (B a1 q d);cases t with
    | false=>exact Or.inr (g rfl)
    | true =>
     left
     have:i∈Es l.toArray.size (ip b ks):=by
      unfold Es;rw[List.mem_filter,List.mem_range];exact⟨A,by rw[hi];rfl⟩
     simpa using this))
  cases c with
  | none =>
   obtain⟨S,o,g,p⟩:=h;exact key S _ (phN r) o g p λa1 q d=>Ke hs u r _ a1 w b5 hv.2 d q
  | some c =>
   obtain⟨S,o,g,p⟩:=h;simp only[Xxx] at b5;have m:Region.ready .any l.toArray (ip b ks)=[c]:=by simpa using b5.1
   refine key S _ (phN r+1) o g p λa1 q d => ?_;refine⟨λe=>(by rw[m] at e;cases e),λi hi => ?_⟩;have z:i=c:=by rw[m] at hi;simpa using hi
   subst z;exact wpOp_mono (λF D E=>Ke hs u r _ F D b5.2 hv.2 (d.set hi) E) q
theorem i9{l:List Oper}{a:Act}(b:List (Bool × List Nat × Option Nat))(h:Tx P l (NoPanic Q) b a w.drew)(e:P.follows .mixedOrders=true:=by kernel_rfl)(hs:Region.noSelect l.toArray=true:=by kernel_rfl)(g:phB l.toArray b (Array.replicate l.length false)=true:=by kernel_rfl)(d:(b.all (λx=>(dw l x.2.1).all Ie))=true:=by kernel_rfl)(f:phN b=l.length:=by kernel_rfl):(Code.region n l.toArray true).wp P Q a w:=by
 refine wp_region_noPanic (wp_region_any e ?_);have:=Ke (Q:=NoPanic Q) hs (λc a i w h=>(h:False).elim) b _ a w.drew g d (ni.none _ _) h;rw[f] at this
 simpa using this
theorem ki{l:List Oper}{K:Act->World->Prop}(k:Nat){o:Oper}{a:Act}(b:l[k]?=some o)
  (h:wpList P l.toArray (Exit.then K Q) [o] a w):wpOp P l.toArray Q k K a w:=ay k b h
def ji(A B:World):Prop:=A.heap.size<=B.heap.size/\∀(g:Nat) (cur:Array Value) (e:TypeId) (z:Nat × Nat),A.heap[g]?=some (.cells cur e z)->B.heap[g]?=A.heap[g]?
theorem ji.of{A B:World}{row:Option Nat}(a:A.grownBy B row)(c:∀r,row=some r->∃o:Obj,A.heap[r]?=some o/\o.isCells=false):ji A B :=
 ⟨a.size,λg cur e z h=>a.block g (Qkq h).1 (λk=>by
  obtain⟨o,b,hc⟩:=c g k.symm;rw[h] at b;cases b;cases hc)⟩
theorem Blk.ck{A B:World}(h:Blk A g e n f)(k:ji A B):Blk B g e n f:=by
 obtain⟨cur,hc,a⟩:=h;exact Blk.same ⟨cur,hc,a⟩ (k.2 g cur e (0,0) hc)
theorem j6.ck{A B:World}{r:Rw}(h:j6 M A r)(k:ji A B):j6 M B r:=by
 obtain⟨g,d,c,e,b,a⟩:=h;exact⟨g,d,c,e,b,a.ck k⟩
theorem fq.ck{A B:World}{size:Nat}{a:Option Addr}{c:Nat}(h:fq M A e size a c)(k:ji A B):fq M B e size a c :=
 h.same λg cur b=>k.2 g cur e (0,0) b
theorem j7.ck{A B:World}{s:Os}(h:j7 M A s)(k:ji A B):j7 M B s:=by
 refine⟨h.le,h.cap,λf => ?_,λi hi => ?_,h.apart,h.room.ck k⟩
 .obtain⟨g,a,b,c⟩:=h.list f;exact⟨g,a,b,c.ck k⟩
 obtain⟨C,a,b,c,d,e⟩:=h.lines i hi;exact⟨C,a,b,c,d,e.ck k⟩
theorem cz.ck{A B:World}{s:Hs}(h:cz M e A s)(k:ji A B):cz M e B s:=by
 obtain⟨l,f,d,a⟩:=h;refine⟨l,f,d,λc => ?_⟩;obtain⟨g,i,j,b⟩:=a c;exact⟨g,i,j,b.ck k⟩
theorem ai.ck{A B:World}(h:ai M A s)(k:ji A B):ai M B s:=by
 refine⟨?_,λi hi=>(h.rows i hi).ck k,h.rapart,h.os.ck k,h.hs.ck k,h.ms.ck k,h.msr.ck k,h.si.ck k,h.so.ck k,h.sf.ck k,h.aio,h.aif,h.aof,h.ari⟩;obtain⟨g,d,c,e,b,a⟩:=h.on;exact⟨g,d,c,e,b,a.ck k⟩
theorem ai.low{e:Nat}{A:World}(h:ai M A s)(b:e<=M):ai e A s:=by
 refine⟨?_,λi hi => ?_,h.rapart,h.os.mono b,h.hs.mono b,h.ms.mono b,h.msr.mono b,?_,?_,?_,h.aio,h.aif,h.aof,h.ari⟩
 .obtain⟨g,c,a,d⟩:=h.on;exact⟨g,c,Qzx b a,d⟩
 .obtain⟨g,c,a,d⟩:=h.rows i hi;exact⟨g,c,Qzx b a,d⟩
 .obtain⟨g,c,a,d⟩:=h.si;exact⟨g,c,Qzx b a,d⟩
 .obtain⟨g,c,a,d⟩:=h.so;exact⟨g,c,Qzx b a,d⟩
 obtain⟨g,c,a,d⟩:=h.sf;exact⟨g,c,Qzx b a,d⟩
theorem ji.below{A B:World}(h:Below A.heap.size A B):ji A B:=⟨h.size,λg cur e z a=>h.block g (Qkq a).1⟩
theorem Et{F:Fence}(w:World){y:Array Oper}{rest:List Oper}{o:Oper}{a:Act}
  (Y:o.guard=none) (s x:Operand) (t:TypeId) (f:o.op=Op.call { callee:=Callee.builtin Builtin.append,args:=#[s,x],argTypes:=#[t,t] })
  (e:TypeId) (i:TypeInfo) (z:Value) (size bytes:Nat) (T:P.underlying t=some (.slice e)) (X:P.info? e=some i) (H:i.zero=some z) (G:i.size=size) (S:i.bytes=bytes) (U:z.cells.size=size) (J:0<size)
  (v:Option Addr) (n cap:Nat) (d:List Value) (hs:a.eval s = .slice v n cap) (q:v=none->n=0/\cap=0) (A:d.length=n*size) (holds:∀b,v=some b->∀j u,d[j]?=some u->w.cell? (b.add j)=some u)
  (p:Addr) (m c:Nat) (news:List Value) (hx:a.eval x = .slice (some p) m c) (W:news.length=m*size) (hc:∀j u,news[j]?=some u->w.cell? (p.add j)=some u) (L:∀u∈news,u.oneCell'=true)
  (r:cap<n+m) (b1:n+m<=maxLen) (b2:(n+m)*bytes<=140737488355328)
  (M:∀k h,h.ownsRow w.heap.size e size k (n+m) (d++news)->w.grownBy h none->wpListIn F R P y Q rest (a.put o.dst k) h) :
  wpListIn F R P y Q (o :: rest) a w:=by
 refine wpListIn_plain Y λK B => ?_;cases v with
 | some b =>
  obtain⟨k,h,g,E,D⟩:=run_append_arg_grows (P:=P) w t o.type e i z size bytes T X H G S U J b n cap d A (holds b rfl) p m c news W hc r b1 b2;unfold Oper.wpIn;refine⟨?_,?_⟩
  .simp[Oper.about,f,resolve,Target.leads,Sem.run_pure]
  rw[Oper.semAt_plain F _ _ (by rw[f];intro c l;cases l)];simp[execOp,f,resolve,invoke,builtin,hs,hx,g,Result.andThen];exact B _ _ (M k h E D)
 | none =>
  obtain⟨rfl,rfl⟩:=q rfl;obtain rfl:d=[]:=List.eq_nil_of_length_eq_zero (by simpa using A);obtain⟨k,h,g,E,D,_⟩:=run_append_own (P:=P) w w.heap.size t o.type e i z size bytes T X H G S U J (.slice none 0 0) 0 [] (World.ownsRow_nil w _ e size) p m c news W hc L b1 b2 nlr;unfold Oper.wpIn;refine⟨?_,?_⟩
  .simp[Oper.about,f,resolve,Target.leads,Sem.run_pure]
  rw[Oper.semAt_plain F _ _ (by rw[f];intro c l;cases l)];simp[execOp,f,resolve,invoke,builtin,hs,hx,g,Result.andThen];exact B _ _ (M k h E D)
theorem Fl{F:Fence}(w:World){rest:List Oper}{o:Oper}{a:Act}
  (E:o.guard=none) (s x:Operand) (t:TypeId) (H:o.op=Op.call { callee:=Callee.builtin Builtin.append,args:=#[s,x],argTypes:=#[t,t] })
  (A:Nat) (e:TypeId) (i:TypeInfo) (z:Value) (size bytes:Nat) (h1:P.underlying t=some (.slice e)) (h2:P.info? e=some i) (U:i.zero=some z) (h4:i.size=size) (h5:i.bytes=bytes) (h6:z.cells.size=size) (h7:0<size)
  (q:Option Addr) (n c:Nat) (l:List Value) (hs:a.eval s = .slice q n c) (r:fq A w e size q c) (aa:n<=c) (J:c<=maxLen) (B:l.length=n*size) (K:0<n->∃g,q=some ⟨g,0,none⟩/\A<=g/\Blk w g e (n*size) (λj=>l.getD j default))
  (v:Addr) (m S:Nat) (news:List Value) (hx:a.eval x = .slice (some v) m S) (hn:news.length=m*size) (hc:∀j u,news[j]?=some u->w.cell? (v.add j)=some u) (D:∀u∈news,u.oneCell'=true)
  (hm:0<m) (b1:n+m<=maxLen) (b2:(n+m)*bytes<=140737488355328) (hA:A<=w.heap.size)
  (W:∀f d,d.ownsRow A e size f (n+m) (l++news)->pu A e w d->wpListIn F R P Y Q rest (a.put o.dst f) d) :
  wpListIn F R P Y Q (o :: rest) a w:=by
 rcases r with h0|⟨g,cur,ha,G,y,V⟩
 .subst h0;have X:n=0:=by omega
  subst X;obtain rfl:l=[]:=List.eq_nil_of_length_eq_zero (by simpa using B);refine Et w E s x t H e i z size bytes h1 h2 U h4 h5 h6 h7 q 0 0 [] hs (λ_=>⟨rfl,rfl⟩) (by simp) (λb _ j u hj=>by simp at hj) v m S news hx hn hc D (by omega) b1 b2 λf d T L => ?_;exact W f d (O3 T hA) ⟨none,L,λk p=>by cases p⟩
 subst ha;have M:=M8 (w:=w) (e:=e) G y V aa J B (λh=>by
  obtain⟨g',e1,_,hb⟩:=K h;simp only[Qkx,Qkz,and_true] at e1;subst e1;exact hb)
 refine wpListIn_append_own w E s x t H A e i z size bytes h1 h2 U h4 h5 h6 h7 _ n l hs M v m S news hx hn hc D b1 b2 hA λf d T L _ => ?_;refine W f d T ⟨_,L,λk p => ?_⟩;simp only[Value.ownBlock,Qkx] at p;subst p;exact⟨G,cur,y⟩
theorem pu.keeps(h:pu A e w c):KeepsOthers w c:=by
 obtain⟨row,b,f⟩:=h;refine⟨b.size,λk o a d => ?_⟩;refine(b.block k (Qkq a).1 λg => ?_).trans a;obtain⟨_,cur,hc⟩:=f k g.symm;rw[a] at hc;cases hc;cases d
theorem ai.addM{m:Hd}(h:ai A w s)(e:d.ownsRow A 77 4 v (s.ms.n+1) (ax s.ms.n s.ms.z++df m))(l:pu A 77 w d):
  ∃k:Hs,v = .slice k.a k.n k.c/\ai A d (withMoves s k)/\k.n=s.ms.n+1/\(∀j,j<s.ms.n->k.z j=s.ms.z j)/\k.z s.ms.n=m:=by
 have g:ax s.ms.n s.ms.z++df m=ax (s.ms.n+1) (λi=>if i=s.ms.n then m else s.ms.z i):=by
  rw[ud,if_pos rfl,mw (z':=λi=>if i=s.ms.n then m else s.ms.z i) λi hi=>by rw[if_neg (by omega)]]
 have b:=e;rw[g] at b;obtain⟨k,rfl,ok,kn,f⟩:=cz.ofRow b nlr;refine⟨k,rfl,h.moreM l ok ?_,kn,λj o=>by rw[f];exact if_neg (by omega),by rw[f];exact if_pos rfl⟩;exact fq.ofOwns (a:=k.a) (n:=k.n) (c:=k.c) e nlr
theorem j6.keepM{b:World}{r:Rw}(h:j6 A w r)(c:Blk w g 77 n f)(K:im g w b):j6 A b r:=by
 obtain⟨q,i,e,j,d,a⟩:=h;exact⟨q,i,e,j,d,K.blk a (Blk.ne2 a c (by decide))⟩
theorem cz.keepM{s:Hs}(h:cz A t w s)(k:Blk w g 77 n f)(a:t≠77)(K:im g w c):cz A t c s:=by
 obtain⟨j,m,e,d⟩:=h;refine⟨j,m,e,λl => ?_⟩;obtain⟨q,o,i,b⟩:=d l;exact⟨q,o,i,K.blk b (Blk.ne2 b k a)⟩
theorem j7.keepM{k:World}{s:Os}(h:j7 A w s)(c:Blk w g 77 n f)(K:im g w k):j7 A k s:=by
 refine⟨h.le,h.cap,λo => ?_,λi hi => ?_,h.apart,?_⟩
 .obtain⟨q,a1,d,a⟩:=h.list o;exact⟨q,a1,d,K.blk a (Blk.ne2 a c (by decide))⟩
 .obtain⟨C,a1,d,a,l,j⟩:=h.lines i hi;exact⟨C,a1,d,a,l,K.blk j (Blk.ne2 j c (by decide))⟩
 refine h.room.same λq cur b=>K.2 q (Qkq b).1 λe => ?_;obtain⟨c2,m,_⟩:=c;rw[e,m] at b;cases b
theorem ai.keepM{h:Hs}(k:ai A w s)(b:Blk w g 77 n f)(K:im g w d)(l:cz A 77 d h)(j:fq A d 77 4 h.a h.c):ai A d (Go.Proofs.YtbcacebifpagpafGreat.withMoves s h):=by
 refine⟨?_,λi hi=>(k.rows i hi).keepM b K,k.rapart,k.os.keepM b K,k.hs.keepM b (by decide) K,l,j,k.si.keepM b K,k.so.keepM b K,k.sf.keepM b K,k.aio,k.aif,k.aof,k.ari⟩;obtain⟨q,o,a1,p,m,e⟩:=k.on;exact⟨q,o,a1,p,m,K.blk e (Blk.ne2 e b (by decide))⟩
theorem Js(w:World)(g:TypeId)(b o n c:Nat)(p:0<n)(hc:∀j,j<n*4->(w.cell? ⟨b,o+j,none⟩).isSome=true)(h:∀j,j<n*4->w.frozen? ⟨b,o+j,none⟩=false):
  (Builtin.clear_ #[29] g #[.slice (some ⟨b,o,none⟩) n c]).run prog w = .ok (.tuple #[]) (w.setCells b o (List.replicate (n*4) (.int .i64 0))):=by
 have d:(Builtin.zeroCells (Value.agg #[.int .i64 0,.int .i64 0,.int .i64 0,.int .i64 0]).cells n).toList=List.replicate (n*4) (.int .i64 0):=by
  rw[show(Value.agg #[.int .i64 0,.int .i64 0,.int .i64 0,.int .i64 0]).cells=#[.int .i64 0,.int .i64 0,.int .i64 0,.int .i64 0] from rfl]
  apply List.ext_getElem
  .simp[Builtin.zeroCells]
  intro i l q;have e:i%4<4:=by omega
  simp[Builtin.zeroCells]
  generalize i%4=k at e
  match k,e with
  | 0,_=>rfl
  | 1,_=>rfl
  | 2,_=>rfl
  | 3,_=>rfl
 have a:=run_storeCells_cells (P:=prog) b o (List.replicate (n*4) (.int .i64 0)) 0 w (by simpa using hc) (by simpa using h) (by intro v f;rw[List.eq_of_mem_replicate f];rfl);simp only[Nat.add_zero] at a;obtain⟨m,rfl⟩:∃m,n=m+1:=⟨n-1,by omega⟩;simp only[Builtin.clear_];simp[d,a]
theorem C5:(prog.info? 77).map (λi=>(i.zero,i.size,i.bytes))=some (some (.agg #[.int .i64 0,.int .i64 0,.int .i64 0,.int .i64 0]),4,32):=by kernel_rfl
theorem Fv{g:Nat}{e:TypeId}{m:Nat}:∀(a:List Value) (o:Nat) (w:World),(∃cur,w.heap[g]?=some (.cells cur e (0,0))/\cur.size=m)->∃cur,(w.setCells g o a).heap[g]?=some (.cells cur e (0,0))/\cur.size=m
 | [],_,_,h=>h
 | v :: r,o,w,h=>by
  rw[World.setCells];refine Fv r (o+1) _ ?_;obtain⟨cur,c,b⟩:=h;exact⟨cur.setIfInBounds o v,by simp[World.setCell,Array.getElem?_modify,c],by simpa using b⟩
theorem vx(g q j:Nat):(⟨g,q,none⟩:Addr).add j=⟨g,q+j,none⟩:=by
 unfold Addr.add
 split<;>simp_all
theorem Yj(A g n c k:Nat)(z:Nat->Hd)(w:World)(J:A<=g)(Q:A<=w.heap.size)(hn:n<=c)(D:c<=maxLen)(hk:k<n)(cur:Array Value)(L:w.heap[g]?=some (.cells cur 77 (0,0)))(M:cur.size=c*4)(r:Blk w g 77 (n*4) (λj=>(ax n z).getD j default)):
  Calls prog 66 #[.slice (some ⟨g,0,none⟩) n c,.int .i64 (k:Int),.int .i64 ((k:Int)+1)] w λe b=>e = .returned (.slice (some ⟨g,0,none⟩) (n-1) c)/\Blk b g 77 ((n-1)*4) (λj=>(ax (n-1) (fs z k)).getD j default)/\(∃a,b.heap[g]?=some (.cells a 77 (0,0))/\a.size=c*4)/\Below A w b/\im g w b:=by
 have y:=D;unfold maxLen at D;obtain⟨W,hM,au,P,av⟩:=info_parts C5;have G:=qa3 r L M;clear r L M;have k0:(0:Int)<=(k:Int):=by omega
 have k1:(k:Int)+1<=(n:Int):=by omega
 have k2:((k:Int)+1).toNat=k+1:=by omega
 have k3:((k:Int)==(k:Int)+1)=false:=beq_eq_false_iff_ne.2 (by omega);go_enter func66,ntmps66;go_wp2_with fail;have v:Hid (Below w.heap.size w w.drew/\w.drew.heap=w.heap):=⟨brf.drew,rfl⟩;refine i9 [(true,[0,1,2,3,4,5],some 6),(false,[7],none)] ?_;refine⟨λb=>∃p:Regrown,b=grow (redrawn w p.d) p.os,Qqx (brf.drew),λh=>(by cases h),?_⟩;simp only[dw,Qyq,Xqq,Qyx,Qyz,Xqz,Xqx];have x:Hid (∀K,K=c->w.drew.ownsRow A 77 4 (.slice (some ⟨g,0,none⟩) k K) k (ax k z)):=λK V=>by
  subst V;refine M8 (w:=w.drew) (cur:=cur) J G.out.2.1 G.out.2.2 (by omega) y (ed _ _) λh => ?_;have r:=G.out.1.below v.out.1;refine(r.less (by omega)).congr λj f => ?_;rw[uz (by omega),uz (by omega)]
 have F:Hid (∀j u,(ax (n-(k+1)) (λj=>z (k+1+j)))[j]?=some u->w.drew.cell? ⟨g,(k+1)*4+j,none⟩=some u):=λj u f=>by
  have hl:j<(n-(k+1))*4:=by
   have:=(List.getElem?_eq_some_iff.1 f).1;rw[ed] at this;exact this
  have r:=G.out.1.below v.out.1;have h1:=r.cell (j:=(k+1)*4+j) (by omega);rw[h1,uz (by omega)];have h2:(ax (n-(k+1)) (λj=>z (k+1+j))).getD j default=u:=by simp[List.getD,f]
  rw[<-h2,uz hl];unfold hc;rw[show((k+1)*4+j)/4=k+1+j/4 by omega,show((k+1)*4+j)%4=j%4 by omega]
 have B:Hid (∀b,b.ownsRow A 77 4 (.slice (some ⟨g,0,none⟩) (n-1) c) (n-1) (ax k z++ax (n-(k+1)) (λj=>z (k+1+j)))->w.drew.grownBy b (some g)->
   (∀s,(Builtin.clear_ #[29] s #[.slice (some ⟨g,(n-1)*4,none⟩) 1 (c-(n-1))]).run prog b = .ok (.tuple #[]) (b.setCells g ((n-1)*4) (List.replicate (1*4) (.int .i64 0)))) /\
   ∀i,i=b.setCells g ((n-1)*4) (List.replicate (1*4) (.int .i64 0))->Blk i g 77 ((n-1)*4) (λj=>(ax (n-1) (fs z k)).getD j default)/\(∃a,i.heap[g]?=some (.cells a 77 (0,0))/\a.size=c*4)/\Below A w i/\im g w i):=λb m U=>by
  obtain⟨_,⟨h,_⟩|⟨g',K,a,h,ay,H,h1,h2,X,h4⟩⟩:=m
  .cases h
  simp only[Value.slice.injEq,Qkx,Qkz,and_true,true_and] at h;obtain⟨rfl,rfl⟩:=h;have aw:(n-1)*4+4<=a.size:=by rw[X];omega
  have S:Blk b g 77 a.size (λj=>a.getD j default):=⟨a,H,Nat.le_refl _,λj f=>by simp[Array.getD,f]⟩;have r:Blk b g 77 ((n-1)*4) (λj=>(ax (n-1) (fs z k)).getD j default):=by
   refine⟨a,H,by omega,λj f => ?_⟩;rw[ua n z k hk,<-h4];have e:(a.toList.take ((n-1)*4))[j]?=a[j]?:=by rw[List.getElem?_take,if_pos f];simp
   have e2:j<a.size:=by omega
   simp only[List.getD,e];simp[e2]
  have ag:im g w b:=⟨by have:=U.size;exact this,λq hq ab=>U.block q hq (λe=>ab (by cases e;rfl))⟩;have aa:Below A w b:=(v.out.1.mono Q).grown U Q (λq e=>by cases e;exact J);refine⟨λs=>Js b s g ((n-1)*4) 1 (c-(n-1)) (by omega) (λj f=>by rw[S.cell (by omega)];rfl) (λj _=>S.frozen _),λi e => ?_⟩;subst e;exact⟨Blk.setCells _ _ _ r nlr,Fv _ _ _ ⟨a,H,X⟩,yi J _ _ _ aa,ag.cells _ _ _⟩
 clear J y v G;by_cases Y:c=k+1;rotate_left
 .repeat(go_big_quiet_step(fail))
  refine Qqz ?_
  generalize w.drew=T at *
  refine ki 6 rfl ?_
  (refine wpList_append_fits_any T rfl (.tmp 22) (.tmp 25) 29 rfl A 77 W 4 underlying29 hM P g k c (ax k z) rfl (x.out c rfl) (some ⟨g,(k+1)*4,none⟩) (n-(k+1)) (c-(k+1)) (ax (n-(k+1)) (λj=>z (k+1+j))) rfl (ed _ _) (λe=>by cases e) (λad e j u f=>by cases e;rw[vx];exact F.out j u f) (me _ _) (by omega) ?_)
  intro i m o;rw[show k+(n-(k+1))=n-1 by omega] at m ⊢;obtain⟨E,l⟩:=B.out i m o;have t:Hid _:=l;clear m o B x F l;simp only[Act.put,Qvq,Qwx,Qwz];refine(?_:wpList _ _ _ [] _ _);go_wp2_with fail;refine⟨λ_=>True,trivial,λ_ _=>trivial,?_⟩;simp only[dw,Qyq,Xqq,Qyx,Qyz,Xqz,Xqx]
  repeat(go_big_quiet_step(fail))
  refine Qqz ?_;refine NoPanic.normal ?_;have af:¬c=n-1:=by omega
  have ae:(n-1)<=n:=by omega
  have ai:n-(n-1)=1:=by omega
  go_wp2_with fail;go_ret;exact⟨rfl,t.out _ rfl⟩
 subst Y;obtain rfl:n=k+1:=by omega
 repeat(go_big_quiet_step(fail))
 refine Qqz ?_
 generalize w.drew=T at *
 refine ki 6 rfl ?_
 (refine wpList_append_fits_any T rfl (.tmp 22) (.tmp 25) 29 rfl A 77 W 4 underlying29 hM P g k (k+1) (ax k z) rfl (x.out (k+1) rfl) (some ⟨g,0,none⟩) 0 0 [] rfl rfl (λe=>by cases e) (λad e j u f=>by cases f) (λu hu=>by cases hu) (by omega) ?_)
 intro i m o;rw[show k+0=k+1-1 by omega] at m ⊢;obtain⟨E,l⟩:=B.out i (by rw[show k+1-(k+1)=0 by omega];exact m) o;have t:Hid _:=l;have ap:∀s,(Builtin.clear_ #[29] s #[.slice (some ⟨g,k*4,none⟩) 1 1]).run prog i = .ok (.tuple #[]) (i.setCells g (k*4) (List.replicate (1*4) (.int .i64 0))):=λs=>by
  have h:=E s;rw[show k+1-1=k by omega,show k+1-k=1 by omega] at h;exact h
 clear E;clear m o B x F l;simp only[Act.put,Qvq,Qwx,Qwz];refine(?_:wpList _ _ _ [] _ _);go_wp2_with fail;refine⟨λ_=>True,trivial,λ_ _=>trivial,?_⟩;simp only[dw,Qyq,Xqq,Qyx,Qyz,Xqz,Xqx]
 repeat(go_big_quiet_step(fail))
 refine Qqz ?_;refine NoPanic.normal ?_;have af:¬k+1=k+1-1:=by omega
 have ae:(k+1-1)<=k+1:=by omega
 have ai:k+1-(k+1-1)=1:=by omega
 go_wp2_with fail;go_ret;exact⟨rfl,t.out _ rfl⟩
theorem Zc(A:Nat)(s:St)(k:Nat)(w:World)(B:A<=w.heap.size)(o:ai A w s)(F:k<s.ms.n):
  Calls prog 66 #[.slice s.ms.a s.ms.n s.ms.c,.int .i64 (k:Int),.int .i64 ((k:Int)+1)] w λe h=>e = .returned (.slice s.ms.a (s.ms.n-1) s.ms.c)/\ai A h (withMoves s (Bu s.ms k))/\Below A w h/\(∀q t m g,t≠77->Blk w q t m g->Blk h q t m g):=by
 obtain⟨L,E,H,G⟩:=o.ms;obtain⟨g,d,i,j⟩:=G (by omega);rcases o.msr with Q|⟨S,cur,b,M,p,r⟩
 .omega
 rw[d] at b;simp only[Qkx,Qkz,and_true] at b;subst b;have J:=Yj A g s.ms.n s.ms.c k s.ms.z w i B L E F cur p r j;rw[d];refine J.mono ?_;rintro e P ⟨rfl,u,⟨l,D,v⟩,K,x⟩;refine⟨rfl,o.keepM j x ⟨by show s.ms.n-1<=s.ms.c;omega,E,H,λ_=>⟨g,d,i,u⟩⟩ (Or.inr ⟨g,l,d,i,D,v⟩),K,λq t m f' y f=>x.blk f (Blk.ne2 f j y)⟩
theorem Cd{size:Nat}{b:List Value}(h:w.ownsRow A e size v n b){k:Nat}(a:v.ownBlock=some k):A<=k:=by
 obtain⟨_,⟨rfl,_⟩|⟨g,cap,cur,rfl,c,_⟩⟩:=h
 .cases a
 simp only[Value.ownBlock,Qkx] at a;omega
theorem ai.withM{h:Hs}(k:ai A w s)(b:cz A 77 w h)(d:fq A w 77 4 h.a h.c):ai A w (withMoves s h):=
 ⟨k.on,k.rows,k.rapart,k.os,k.hs,b,d,k.si,k.so,k.sf,k.aio,k.aif,k.aof,k.ari⟩
theorem jc.flat(h:jc w (some ⟨b,o,none⟩) n z)(p:q+m<=n){u:Value}(a:(ax m (λx=>z (q+x)))[j]?=some u):w.cell? ⟨b,o+q*4+j,none⟩=some u:=by
 have t:j<m*4:=by
  have:=(List.getElem?_eq_some_iff.1 a).1;rw[ed] at this;exact this
 obtain⟨i,c,rfl,hc⟩:∃i c,j=i*4+c/\c<4:=⟨j/4,j%4,by omega,by omega⟩;rw[vq m _ i c (by omega) hc] at a;obtain⟨s,r,e,_,l,f,k,d⟩:=h (q+i) (by omega);simp only[Qkx,Qkz,and_true] at e;obtain⟨rfl,rfl⟩:=e;have g:o+q*4+(i*4+c)=o+(q+i)*4+c:=by omega
 rw[g,<-a]
 match c,hc with
 | 0,_=>exact l
 | 1,_=>exact f
 | 2,_=>exact k
 | 3,_=>exact d
theorem ai.rowBlk(h:ai A w s){G:Nat}(c:b<s.on.n)(d:(s.on.r b).a=some ⟨G,0,none⟩):A<=G/\Blk w G 3 (s.on.r b).n (λj => .int .i64 ((s.on.r b).z j)):=by
 obtain⟨e,b1,b2,b3,b4,b5⟩:=h.rows b c;rw[d] at b1;simp only[Qkx,Qkz,and_true] at b1;subst b1;exact⟨b2,b5⟩
theorem dg.setOn{d:Nat}{f:World}{cur:St}(h:dg A d c cur f)(k:c.heap.size<=A){G:Nat}(e:b<cur.on.n)(i:(cur.on.r b).a=some ⟨G,0,none⟩)(g:Nat)(v:Int):dg A d c (Go.Proofs.YtbcacebifpagpafGreat.setOn cur b g v) (f.setCell ⟨G,g,none⟩ (.int .i64 v)):=by
 obtain⟨l,j⟩:=h.own.rowBlk e i;exact⟨h.own.setOn e i g v,h.box.other (a:=⟨G,g,none⟩) (Blk.ne2 h.box j (by decide)) _,h.bel.setCell (p:=⟨G,g,none⟩) (by show c.heap.size<=G;omega) _,by have:=h.le;simpa using this⟩
theorem dg.moves{f i:World}{cur:St}(h:dg A b f cur i)(s:f.heap.size<=A)(u:A<=b){e:World}{m:Hs}(o:ai A e (withMoves cur m))(k:Below A i e)(l:∀q t n g,t≠77->Blk i q t n g->Blk e q t n g):dg A b f (withMoves cur m) (e.setCell ⟨b,3,none⟩ (.slice m.a m.n m.c)):=by
 have d:=l _ _ _ _ (by decide) h.box;refine⟨o.box d 3 _,(d.set 3 _).congr λj r => ?_,(h.bel.trans (k.mono s)).setCell (p:=⟨b,3,none⟩) (by show f.heap.size<=b;omega) _,by have:=k.size;have:=h.le;simp;omega⟩
 match j,r with
 | 0,_=>rfl
 | 1,_=>rfl
 | 2,_=>rfl
 | 3,_=>rfl
 | 4,_=>rfl
 | 5,_=>rfl
 | 6,_=>rfl
theorem dg.more{g i e:World}{m:Hd}(h:dg A b g x i)(o:g.heap.size<=A)(t:A<=b)(r:e.ownsRow A 77 4 v (x.ms.n+1) (ax x.ms.n x.ms.z++df m))(f:pu A 77 i e):
  ∃k:Hs,v = .slice k.a k.n k.c/\dg A b g (withMoves x k) (e.setCell ⟨b,3,none⟩ (.slice k.a k.n k.c))/\k.n=x.ms.n+1/\(∀j,j<x.ms.n->k.z j=x.ms.z j)/\k.z x.ms.n=m/\Blk e b 31 7 (λj=>x.cells.getD j default):=by
 obtain⟨k,rfl,ok,kn,q,kl⟩:=h.own.addM r f;have d:=f.blk h.box (by decide);refine⟨k,rfl,⟨ok.box d 3 _,(d.set 3 _).congr λj l => ?_,(f.below h.bel o h.bel.size).setCell (p:=⟨b,3,none⟩) (by show g.heap.size<=b;omega) _,?_⟩,kn,q,kl,d⟩
 .match j,l with
  | 0,_=>rfl
  | 1,_=>rfl
  | 2,_=>rfl
  | 3,_=>rfl
  | 4,_=>rfl
  | 5,_=>rfl
  | 6,_=>rfl
 have s:=(f.below (Below.refl A i) nlr h.le).size;have:=h.le;simp;omega
theorem Zy(w:World)(Z:Hd)(e:TypeId):∀j u,(df Z)[j]?=some u->(w.alloc (.cells #[.int .i64 Z.o,.int .i64 Z.l,.int .i64 Z.b,.int .i64 Z.n] e)).cell? ((⟨w.heap.size,0,none⟩:Addr).add j)=some u:=by
 intro j u c;rw[vx,Nat.zero_add];have K:=Blk.new w #[.int .i64 Z.o,.int .i64 Z.l,.int .i64 Z.b,.int .i64 Z.n] e;have a:j<4:=(List.getElem?_eq_some_iff.1 c).1;rw[K.cell (j:=j) a,<-c]
 match j,a with
 | 0,_=>rfl
 | 1,_=>rfl
 | 2,_=>rfl
 | 3,_=>rfl
attribute [local go_sem] Oper.semAt_some
theorem Wj(F:Fence)(n:Nat)(h6:F.fn 113)(S:F.round=none)(hn:1<=n)(l Bp d m:Nat)(p:Pl)(f:Bool)(J U:List (yx p f)->World->Prop)
  (hY:∀pre x W,J pre W->pre.length<p.nb->YieldAt F (n-1) prog l #[.int .i64 (x.1:Int)] W λe c =>
   (e = .returned (.bool true)/\J (pre++[x]) c/\zu m d W c)\/(e = .returned (.bool false)/\U (pre++[x]) c))
  (W:World) (hJ:AbidesFrom W.heap.size J) (G:m<=W.heap.size) (al:W.cell? ⟨Bp,0,none⟩=some (.slice p.ab p.nb p.cb)) (aa:W.cell? ⟨d,0,none⟩=some (.bool f)) (aj:p.nb<=p.cb) (L:p.cb<=maxLen)
  (hL:∀c,Below m W c->sl c p.ab p.nb p.zb) (h0:J [] W) :
  CallsIn F n prog 113 #[.func (.yield l) #[] #[],.pointer (some ⟨Bp,0,none⟩),.pointer (some ⟨d,0,none⟩)] W λe c=>(∃v,e = .returned v) /\
   ((∃ys,ys=frX p f p.nb/\J ys c)\/(∃pre,pre <+: frX p f p.nb/\U pre c)):=by
 unfold maxLen at L;have V:Hid (∀wr,Below m W wr->W.heap.size<=wr.heap.size):=λa h=>h.size;have K:Hid (∀pre A o,J pre A->J pre (A.alloc o)):=λpre A o h=>hJ pre A (A.alloc o) none h (World.grownBy_alloc A o none) (λr e=>by cases e);refine callsIn_of_wp func113 rfl h6 ?_ S;simp only[ntmps113,List.size_toArray,List.length_cons,List.length_nil,Nat.reduceAdd,Nat.reduceSub,Array.replicate_succ,Array.replicate_zero,List.push_toArray,List.append_toArray,Xqx,Xqz]
 gi_wp2
 gi_loopw [9] (λi wr=>∃k:Nat,k<=p.nb/\i = .int .i64 k/\J (frX p f k) wr/\Below m W wr/\wr.cell? ⟨d,0,none⟩=some (.bool f)) (λi _=>p.nb-(intOf i).toNat)
 case atStart=>exact⟨0,Qxz _,rfl,h0,Below.refl _ _,aa⟩
 obtain⟨k,hk,rfl,w,s,u⟩:=hrel;by_cases j:k<p.nb;rotate_left
 .gi_wp2
  go_end0
  have Q:k=p.nb:=by omega
  subst Q;exact⟨⟨_,rfl⟩,.inl ⟨_,rfl,w⟩⟩
 obtain⟨b,o,D,hb,z0,z1,z2,z3⟩:=hL _ s k j;have m1:(0:Int)<=(k:Int):=by omega
 have y:d<wr.heap.size:=World.block_lt_of_cell? wr _ u;have ak:=aau p f k;rw[D];clear D;by_cases q:(p.zb k).front=f;rotate_left
 .have g:=K.out _ wr (.cells #[.bool (p.zb k).front,.int .i64 (p.zb k).room,.int .i64 (p.zb k).low,.int .i64 (p.zb k).high] 112) w;rw[<-J7 q] at g;have E:=s.alloc (Qzx G (V.out wr s)) (.cells #[.bool (p.zb k).front,.int .i64 (p.zb k).room,.int .i64 (p.zb k).low,.int .i64 (p.zb k).high] 112);have B:=(((Below.refl wr.heap.size wr).alloc nlr (.cells #[.bool (p.zb k).front,.int .i64 (p.zb k).room,.int .i64 (p.zb k).low,.int .i64 (p.zb k).high] 112)).cell (p:=⟨d,0,none⟩) y).trans u;have M:=qa3 g E B;clear g E B
  gi_wp2
  refine⟨λ_ h=>(by cases h),?_⟩
  gi_wp2
  go_roundw
  case rel=>exact⟨k+1,by omega,by go_num,M.out.1,M.out.2.1,M.out.2.2⟩
  case measure=>simp[intOf];omega
 rw[q] at z0;have g:=K.out _ wr (.cells #[.bool f,.int .i64 (p.zb k).room,.int .i64 (p.zb k).low,.int .i64 (p.zb k).high] 112) w;obtain⟨fn,tmps,assign,body,hy,X⟩:=hY (frX p f k) ⟨k,j,q⟩ _ g (by omega)
 gi_wp2
 refine X.mono ?_;rintro e P (⟨rfl,H,z⟩|⟨rfl,t⟩)
 .have Y:Below m W P:=(s.alloc (Qzx G (V.out wr s)) _).trans z.1;have T:P.cell? ⟨d,0,none⟩=some (.bool f):=z.2 _ ((((Below.refl wr.heap.size wr).alloc nlr _).cell (p:=⟨d,0,none⟩) y).trans u);rw[<-Eo ⟨j,q⟩] at H;clear z X
  gi_wp2
  go_roundw
  case rel=>exact⟨k+1,by omega,by go_num,H,Y,T⟩
  case measure=>simp[intOf];omega
 rw[<-Eo ⟨j,q⟩] at t
 gi_wp2
 refine Xzq (results_none rfl _ _ _) rfl ?_;exact⟨⟨_,rfl⟩,.inr ⟨frX p f (k+1),T7 p f (by omega),t⟩⟩
theorem J0(F:Fence)(n:Nat)(u:F.fn 113)(m:F.round=none)(y:1<=n)(b a e:Nat)(p:Pl)(f:Bool)(w:World)(q:b<w.heap.size)(o:a<w.heap.size)(g:e<=w.heap.size)
  (k:w.cell? ⟨b,0,none⟩=some (.slice p.ab p.nb p.cb)) (r:w.cell? ⟨a,0,none⟩=some (.bool f)) (j:p.nb<=p.cb) (i:p.cb<=maxLen) (t:∀d,Below e w d->sl d p.ab p.nb p.zb) :
  SeqStopsK F n prog 113 #[.pointer (some ⟨b,0,none⟩),.pointer (some ⟨a,0,none⟩)] (λx:yx p f=>#[Value.int .i64 (x.1:Int)]) (zu e a) (λys=>ys=frX p f p.nb) (λpre=>pre <+: frX p f p.nb) p.nb w:=λl J v W c A _ s z =>
 Wj F n u m y l b a e p f J v s W A (Qzx g c.size) ((c.cell (p:=⟨b,0,none⟩) q).trans k) ((c.cell (p:=⟨a,0,none⟩) o).trans r) j i (λd h=>t d ((c.mono g).trans h)) z
end Go.Proofs.YtbcacebifpagpafGreat
namespace Go.Proofs.YtbcacebifpagpafGreat
variable{b n g A l o i m q j R M N:Nat}{w a c d:World}{s x y:St}{r W J K:Int}{e t:TypeId}{p:Pl}{z D:Nat->Hd}{Q:Exit->Act->World->Prop}{f f':Nat->Value}{v c1 c3 c2:Value}{H O:Hs}{U:List Value}{P:Program}{V X:Int->Int->Int}{Y:Array Oper}{Z E:Hd->Bool}{h:Hd}{S:World->Prop}{a1:Act}{z' zs:Nat->Int}{L:Array Bool}
open _root_.Go.Proofs.Tryz
open Go Go.Sort Go.RowKit
def Ey(l:List Oper):Bool:=l.all λo=>match o.op with|.defer _=>false|_=>true
theorem Uj{l:List Oper}(h:Ey l=true){o:Oper}(a:l.toArray[i]?=some o):∀c,o.op ≠ .defer c:=by
 intro c e;have b:o∈l:=by
  rw[Qvz] at a;exact List.mem_of_getElem? a
 have:=List.all_eq_true.1 h o b;rw[e] at this;cases this
section
variable {F:Fence} {n:Nat} {P:Program} {C:World->Prop} {md:Region.Mode}
theorem M0{o:Oper}{a:Act}{K:Act->Prop}{k:Act->World->Prop}{q:Exit->Act->World->Prop}(l:∀c,o.op ≠ .defer c)(g:C w)(h:∀a w',C w'->K a->k a w')
  (s:o.askedIn F P a C) (m:o.quietIn F n P a C K):o.wpIn F n P a w k q:=by
 obtain⟨v,p,i⟩:=m;have b:=p w g;unfold Oper.quietAtIn at b;unfold Oper.wpIn;refine⟨s w g,?_⟩;rw[Oper.semAt_plain F _ _ l]
 generalize (execOp a.eval o).run P w=r at *
 cases r with
 | ok x w' =>
  cases x<;>simp only[Oper.quietUponIn] at b<;>simp only[Oper.uponIn]
  case value u =>
   obtain⟨d,j⟩:=b;rw[d,j];exact h _ _ g i
  case skip =>
   obtain⟨d,j⟩:=b;rw[d,<-j];exact h _ _ g i
  case enter f args =>
   obtain⟨d,hd,hc⟩:=b;rw[d];exact⟨hd,hc.mono λe w'' ⟨he,hw''⟩=>by subst he;exact h _ _ hw'' i⟩
 | halt x w'=>simp only[Oper.quietUponIn] at b
variable {l:List Oper}
theorem Ku{a:Act}{K:Act->Prop}{g:Act->World->Prop}{k:Exit->Act->World->Prop}(j:Ey l=true)(d:C w)(h:∀a w',C w'->K a->g a w')
  (b:qOpIn F n P l.toArray C i K a):wpOpIn F n P l.toArray k i g a w:=by
 unfold qOpIn at b;unfold wpOpIn
 split
 .rename_i c;simp only[c] at b;exact h _ _ d b
 rename_i o c;simp only[c] at b;obtain⟨f,b⟩:=b
 split
 .rename_i e;simp only[e,if_true] at b;exact M0 (Uj j c) d h f b
 rename_i e;simp only[e] at b;exact⟨f w d,h _ _ d b⟩
theorem B0{Q:Act->Prop}{f:Exit->Act->World->Prop}(c:Ey l=true)(d:∀a w,C w->Q a->f .normal a w):∀(fuel:Nat) (b:Array Bool) (a:Act) (w:World),C w ->
  wpAnyQIn F n P md l.toArray C Q fuel b a->wpAnyIn F n P md l.toArray f fuel b a w
 | 0,_,_,_,hw,h=>⟨h.1,d _ _ hw h.2⟩
 | fuel+1,_,_,_,hw,h=>⟨λj=>d _ _ hw (h.1 j),λi hi=>Ku c hw (λk g e=>B0 c d fuel _ k g e) (h.2 i hi)⟩
theorem Hm{a:Act}(f:Ey l=true)(g:P.follows .mixedOrders=true)(d:Region.lexB .any l.toArray=true)(i:C { w with drawn:=w.drawn+1 })
  (h:wpQuietIn F n P l.toArray C (λc=>∀b,C b->Q .normal c b) l a):(Code.region A l.toArray true).wpIn F n P Q a w:=by
 simp only[Region.lexB,Xxx] at d;refine wpIn_region_any g (B0 (Q:=λc=>∀b,C b->Q .normal c b) f (λ_ b e h=>h b e) _ _ _ _ i ?_);have:=wpAnyQIn_lex (F:=F) (n:=n) (C:=C) (md := .any) d.1 l 0 (Array.replicate l.toArray.size false) a (by simp) (by simpa using d.2) h
 simpa using this
theorem vp{a:Act}(c:Ey l=true)(f:P.follows .mixedOrders=true)(g:Region.lexB .any l.toArray=true)
  (h:wpQuietIn F n P l.toArray (λb=>∃p:Regrown,b=grow (redrawn w p.d) p.os) (λe=>∀b,(∃p:Regrown,b=grow (redrawn w p.d) p.os)->Q .normal e b) l a):(Code.region A l.toArray true).wpIn F n P Q a w :=
 Hm (C:=λb=>∃p:Regrown,b=grow (redrawn w p.d) p.os) c f g ⟨⟨w.drawn+1,#[]⟩,by rw[grow_empty];rfl⟩ h
end
end Go.Proofs.YtbcacebifpagpafGreat
namespace Go.Proofs.YtbcacebifpagpafGreat
variable{b n g A l o i m q j R M N:Nat}{w a c d:World}{s x y:St}{r W J K:Int}{e t:TypeId}{p:Pl}{z D:Nat->Hd}{Q:Exit->Act->World->Prop}{f f':Nat->Value}{v c1 c3 c2:Value}{H O:Hs}{U:List Value}{P:Program}{V X:Int->Int->Int}{Y:Array Oper}{Z E:Hd->Bool}{h:Hd}{S:World->Prop}{a1:Act}{z' zs:Nat->Int}{L:Array Bool}
open _root_.Go.Proofs.Tryz
open Go.RowKit Go.Shelf Go.Sort
theorem Qq(p:Pl)(s:St)(b g:Nat)(w:World)(j:p.At w)(hs:s.At w)(h:ah p s=0)(f:b<p.nb)(d:g<p.ns):
  Calls prog 67 #[.agg #[.slice p.ab p.nb p.cb,.slice p.sa p.ns p.cs],.agg #[.slice s.on.a s.on.n s.on.c,.slice s.os.a s.os.n s.os.c,.slice s.hs.a s.hs.n s.hs.c,.slice s.ms.a s.ms.n s.ms.c,.slice s.si.a s.si.n s.si.c,.slice s.so.a s.so.n s.so.c,.slice s.sf.a s.sf.n s.sf.c],.int .i64 (b:Int),.int .i64 (g:Int)] w λe i=>e = .returned (.tuple #[.int .i64 (ar s b g),.int .i64 0])/\Below w.heap.size w i:=by
 have k:=Ht p s b g w j hs;rw[(Dh h f d).1,(Dh h f d).2] at k;exact k
theorem Qk(h:ah p s=0)(c:b<p.nb):s9 p s b=0/\z5 p s b=gj p s b:=by
 have f:=(ew h).fm;have a:ui p s.on b=0:=by unfold ui;rw[f.sh0];simp only[beq_self_eq_true,if_true];rw[bq (by have:=f.sh.n;omega)];rfl
 have e:s9 p s b=0:=by unfold s9;rw[if_pos h,a]
 exact⟨e,by unfold z5;rw[if_pos e];rfl⟩
theorem Sz(p:Pl)(s:St)(b:Nat)(w:World)(d:p.At w)(hs:s.At w)(h:ah p s=0)(a:b<p.nb):
  Calls prog 49 #[p.val,s.val,.int .i64 (b:Int)] w λe c=>e = .returned (.tuple #[.int .i64 (gj p s b),.int .i64 0])/\Below w.heap.size w c:=by
 have k:=Qa p s b w d hs;rw[(Qk h a).1,(Qk h a).2] at k;exact k
theorem Oz(F:cw p s)(c:b<p.nb)(a:g<p.ns):0<=dx s b g/\dx s b g<=1800:=by
 have e:=F.sh.num b (by rw[F.sh.n];exact c) g a;have f:=lj (s:=s) (b:=b) (g:=g) F.moveN;have d:=F.ms8;unfold dx;omega
theorem Ru(F:cw p s)(d:b<p.nb): -30000<=gj p s b/\gj p s b<=1000:=by
 have c:b<s.on.n:=by rw[F.sh.n];exact d
 have i:=vt (z:=(s.on.r b).z) (zs:=p.zs) (n:=p.ns) (λj e=>⟨F.sh.num b c j e,F.sh.pl.sizes j e⟩) p.ns nlr;have h:=D0 F b s.ms.n nlr;have g:=F.ms8;have f:=F.sh.pl.ns3;have a:=F.sh.pl.bins b d;rw[Dv] at a;simp only[Xxq,Bool.not_eq_false'] at a;have:=aq a.1.1;unfold gj;omega
theorem Fq(r:P9 p)(c:b<p.nb):(0<=(p.zb b).high/\(p.zb b).high<=200)/\0<=(p.zb b).low/\(p.zb b).low<=200:=by
 have a:=r.bins b c;rw[Dv] at a;simp only[Xxq,Bool.not_eq_false'] at a;have:=aq a.1.2;have:=aq a.2;omega
theorem Oh(r:au p s)(c:b<p.nb)(a:g<p.ns):0<=ar s b g/\ar s b g<=200:=by
 have F:=r.fm;have d:=(kq (r.goods g a)).2 b c;have f:=F.sh.num b (by rw[F.sh.n];exact c) g a;have h:=mt (s:=s) (b:=b) (g:=g) F.holdN;have e:=jr (s:=s) (b:=b) (g:=g) F.moveN;refine⟨d,?_⟩;unfold ar;omega
theorem Um(p:Pl)(s:St)(g f b:Nat)(n:Int)(w:World)(E:p.At w)(hs:s.At w)(r:au p s)(L:g<p.ns)(hf:f<p.nb)(F:b<p.nb):
  Calls prog 65 #[p.val,s.val,.agg #[.int .i64 g,.int .i64 f,.int .i64 b,.int .i64 n]] w λe w'=>e = .returned (.int .i64 (o5 p s b g f))/\Below w.heap.size w w':=by
 obtain⟨t,hW,D,X0,K0⟩:∃W,(((w.alloc (.cells #[.slice p.ab p.nb p.cb,.slice p.sa p.ns p.cs] 25)).alloc (.cells s.cells 31)).alloc (.cells #[.int .i64 g,.int .i64 f,.int .i64 b,.int .i64 n] 77))=W/\Below w.heap.size w W/\mf W w.heap.size (w.heap.size+1) p s/\Blk W (w.heap.size+1+1) 77 4 (λj=>(#[.int .i64 g,.int .i64 f,.int .i64 b,.int .i64 n]:Array Value).getD j default):=
  ⟨_,rfl,(j8 _ _ _).alloc (by simp;omega) _,(ox w p s _ _).below (brf.alloc nlr _),Blk.mk' (cur:=#[.int .i64 g,.int .i64 f,.int .i64 b,.int .i64 n]) (by simp) rfl⟩
 have v:Hid (∀l,Below t.heap.size t l->mf l w.heap.size (w.heap.size+1) p s/\p.At l/\s.At l/\Below w.heap.size w l/\Blk l (w.heap.size+1+1) 77 4 (λj=>(#[.int .i64 g,.int .i64 f,.int .i64 b,.int .i64 n]:Array Value).getD j default)):=λl h=>⟨X0.below h,(E.below D).below h,(hs.below D).below h,D.trans (h.mono D.size),K0.below h⟩;have HW:Hid (((w.alloc (.cells #[.slice p.ab p.nb p.cb,.slice p.sa p.ns p.cs] 25)).alloc (.cells #[.slice s.on.a s.on.n s.on.c,.slice s.os.a s.os.n s.os.c,.slice s.hs.a s.hs.n s.hs.c,.slice s.ms.a s.ms.n s.ms.c,.slice s.si.a s.si.n s.si.c,.slice s.so.a s.so.n s.so.c,.slice s.sf.a s.sf.n s.sf.c] 31)).alloc (.cells #[.int .i64 g,.int .i64 f,.int .i64 b,.int .i64 n] 77)=t):=hW;have leb:=E.leb;have capb:=E.capb;have les:=E.les;have caps:=E.caps;unfold maxLen at capb caps;have x:=hid r;have g0:(0:Int)<=(g:Int):=by omega
 have b0:(0:Int)<=(b:Int):=by omega
 have g1:(g:Int)<(p.ns:Int):=by omega
 have b1:(b:Int)<(p.nb:Int):=by omega
 clear hW X0 E hs r;unfold Pl.val St.val;go_enter func65,ntmps65;go_wp2_with fail;rw[HW.out];clear HW;have T:Below t.heap.size t t:=Below.refl _ _;obtain⟨⟨⟨K,u,A⟩,J,B,c1,c2,c3,c4,c5,c6⟩,i,o,q,d⟩:=v.out t T;obtain⟨bb,ob,U,ap,z0,z1,z2,z3⟩:=i.bins b F;have P:t.cell? ⟨w.heap.size+1+1,0,none⟩=some (.int .i64 g):=d.k 0;have Q:t.cell? ⟨w.heap.size+1+1,2,none⟩=some (.int .i64 b):=d.k 2;have G:=d.lt;rw[U] at u;have V:Hid (∀l,s.At l->Calls prog 50 #[.agg #[.slice s.on.a s.on.n s.on.c,.slice s.os.a s.os.n s.os.c,.slice s.hs.a s.hs.n s.hs.c,.slice s.ms.a s.ms.n s.ms.c,.slice s.si.a s.si.n s.si.c,.slice s.so.a s.so.n s.so.c,.slice s.sf.a s.sf.n s.sf.c],.int .i64 b,.int .i64 g] l λe w'=>e = .returned (.int .i64 (dx s b g))/\Below l.heap.size l w'):=λl h=>It p s b g l h x.out.fm F L;have X:=hid o;have hi:=Fq x.out.fm.sh.pl F;have ly:=Oz x.out.fm F L;have HN:Hid (o5 p s b g f=min (min ((p.zb b).high-dx s b g) (ar s f g)) ((gj p s b).tdiv (p.zs g))):=rfl;have av:=Oh x.out hf L;have fr:=Ru x.out.fm F;have sz:=x.out.fm.sh.pl.sizes g L;have aw:=Qqq u;have ag:=Qqq z3;have ay:=Qqq P;have az:=Qqq Q;have ad:=Qqq B;have ak:=Qqq c1;have ah:=Qqq c2;have ao:=Qqq c3;have ax:=Qqq c4;have am:=Qqq c5;have al:=Qqq c6
 generalize dx s b g=LY at *
 generalize (p.zb b).high=HI at *
 clear U i o q d u A B c1 c2 c3 c4 c5 c6 z0 z1 z2 z3 P Q T;refine Qxq (by kernel_rfl) (by kernel_rfl) ?_
 repeat(go_big_quiet_step((go_at_call 50;exact Xxz (V.out _ (X.out.below (Qxx _ _ _))))))
 refine Qqz ?_;intro H Y;have m:=af Y;clear aw ag ay az ad ak ah ao ax am al V X Y K J G ap;obtain⟨⟨⟨K,u,A⟩,J,B,c1,c2,c3,c4,c5,c6⟩,i,o,q,d⟩:=v.out H m;have P:H.cell? ⟨w.heap.size+1+1,0,none⟩=some (.int .i64 g):=d.k 0;have m1:H.cell? ⟨w.heap.size+1+1,1,none⟩=some (.int .i64 f):=d.k 1;have G:=d.lt;clear i o q d;go_wp2_with fail;refine Calls.mono (Qq p s f g H (v.out H m).2.1 (v.out H m).2.2.1 (ka x.out) hf L) ?_;rintro e M ⟨rfl,y⟩;have m:=m.trans (y.mono m.size);clear K u A J B c1 c2 c3 c4 c5 c6 P m1 G y
 generalize ar s f g=AV at *
 obtain⟨⟨⟨K,u,A⟩,J,B,c1,c2,c3,c4,c5,c6⟩,i,o,q,d⟩:=v.out M m;have Q:M.cell? ⟨w.heap.size+1+1,2,none⟩=some (.int .i64 b):=d.k 2;have G:=d.lt;clear i o q d;go_wp2_with fail;refine Calls.mono (Sz p s b M (v.out M m).2.1 (v.out M m).2.2.1 (ka x.out) F) ?_;rintro e w3 ⟨rfl,y⟩;have m:=m.trans (y.mono m.size);clear K u A J B c1 c2 c3 c4 c5 c6 Q G y
 generalize gj p s b=FR at *
 obtain⟨⟨⟨K,u,A⟩,J,B,c1,c2,c3,c4,c5,c6⟩,i,o,q,d⟩:=v.out w3 m;have P:w3.cell? ⟨w.heap.size+1+1,0,none⟩=some (.int .i64 g):=d.k 0;have G:=d.lt;obtain⟨bs,os,S,bc,y0⟩:=i.sizes g L;rw[S] at A;clear i o d S
 generalize p.zs g=ZS at *
 by_cases q1:AV<HI-LY
 all_goals(
  go_wp2_with fail
  all_goals(
   go_ret;refine⟨?_,q⟩;rw[HN.out]
   generalize FR.tdiv ZS=QQ at *
   refine congrArg (λz=>Ending.returned (Value.int .i64 z)) ?_;omega))
attribute [local go_sem] Oper.semAt_some
def Xs(P:Prop):Prop:=P
theorem Rc{P:Prop}(h:Xs P):P:=h
theorem Hq{P:Prop}(h:P):Xs P:=h
theorem V9{F:Fence}{fn:Func}{R:Ending->World->Prop}{a:Act}(b:(results fn a.tmps).run P w = .ok v w)(hd:a.defers=[])(c:R (.returned v) w):Exit.noGoto (bodyPostM F n P fn R) .ret a w:=by
 show LeavesInM F n P fn a.tmps R a.defers .returning w;rw[hd];exact⟨v,b,c⟩
theorem Io{F:Fence}{fn:Func}{R:Ending->World->Prop}{a:Act}(b:w.heap[g]?=some (.deferred (some [])))(c:(results fn a.tmps).run P (w.putObj g (.deferred none)) = .ok v (w.putObj g (.deferred none)))(hd:a.defers=[{ target := .collected g,args:=#[] }])(d:R (.returned v) (w.putObj g (.deferred none))):Exit.noGoto (bodyPostM F n P fn R) .ret a w:=by
 show LeavesInM F n P fn a.tmps R a.defers .returning w;rw[hd];exact⟨by simp,.inl ⟨_,_,rfl,run_takeDeferred b,⟨v,c,d⟩⟩⟩
theorem dg.ck{d:Nat}{Y:World}{row:Option Nat}(h:dg A d c x w)(a:w.grownBy Y row)(b:∀r,row=some r->M<=r/\∃o:Obj,w.heap[r]?=some o/\o.isCells=false)(f:c.heap.size<=M):dg A d c x Y :=
 ⟨h.own.ck (ji.of a λr e=>(b r e).2),h.box.ck (ji.of a λr e=>(b r e).2),h.bel.grown a h.bel.size (λk e=>Qzx f (b k e).1),Qzx h.le a.size⟩
theorem tm(h:Below w.heap.size w c):KeepsOthers w c:=⟨h.size,λk o a _=>(h.block k (Qkq a).1).trans a⟩
theorem Jb{c B:Nat}{Y:World}(h:Below c w Y)(f:Blk w B e 1 (λ_=>v))(d:Blk Y B e 1 (λ_=>v)):zu c B w Y:=⟨h,λu b=>by
 have a:=f.k 0;rw[a] at b;cases b;exact d.k 0⟩
def uh(p:Pl)(A B7 BF:Nat)(W0:World)(y:St)(W:World):Prop:=(∃x:St,ae x y/\dg A B7 W0 x W)/\Blk W BF 4 1 (λ_ => .bool true)
theorem uh.ck{d:Nat}{Y:World}{row:Option Nat}(h:uh p A b d a y w)(f:w.grownBy Y row)(c:∀r,row=some r->M<=r/\∃o:Obj,w.heap[r]?=some o/\o.isCells=false)(k:a.heap.size<=M):uh p A b d a y Y:=by
 obtain⟨⟨x,i,j⟩,g⟩:=h;exact⟨⟨x,i,j.ck f c k⟩,g.ck (ji.of f λr e=>(c r e).2)⟩
theorem uh.below{a d:Nat}{b Y:World}(h:uh p A a d b y w)(c:Below w.heap.size w Y):uh p A a d b y Y:=by
 obtain⟨⟨x,g,f⟩,e⟩:=h;exact⟨⟨x,g,f.below c⟩,e.below c⟩
def B8(p:Pl)(A B7:Nat)(W0:World)(c:Code)(y:St)(W:World):Prop:=c = .exit 0/\8<=y.ms.n/\∃x:St,ae x y/\dg A B7 W0 x W
theorem B8.ck{Y:World}{c:Code}{row:Option Nat}(h:B8 p A b a c y w)(g:w.grownBy Y row)(d:∀r,row=some r->M<=r/\∃o:Obj,w.heap[r]?=some o/\o.isCells=false)(k:a.heap.size<=M):B8 p A b a c y Y:=by
 obtain⟨j,e,x,f,i⟩:=h;exact⟨j,e,x,f,i.ck g d k⟩
theorem O6(h:q≠b)(i d c e f g a:Value):(set7 w b i d c e f g a).heap[q]?=w.heap[q]?:=by
 unfold set7;rw[Below.heap_setCell _ ⟨b,6,none⟩ _ q h,Below.heap_setCell _ ⟨b,5,none⟩ _ q h,Below.heap_setCell _ ⟨b,4,none⟩ _ q h,Below.heap_setCell _ ⟨b,3,none⟩ _ q h,Below.heap_setCell _ ⟨b,2,none⟩ _ q h,Below.heap_setCell _ ⟨b,1,none⟩ _ q h,Below.heap_setCell _ ⟨b,0,none⟩ _ q h]
theorem Ym(p:Pl)(s:St)(w:World)(hp:p.At w)(hs:s.At w):
  Calls prog 22 #[p.val,s.val] w λe w'=>∃x:St,e = .returned (.tuple #[x.val,.int .i64 (ah p s)])/\x.At w'/\dv (ah p s) (yp p s) x/\(ah p s=0->ai w.heap.size w' x)/\Below w.heap.size w w':=by
 obtain⟨o,hW,ij,X0,Z0⟩:=zd w p s;have HC:=wv hp hs ij X0 Z0;have HW:=hid hW;have leb:=hp.leb;have bu:=hp.capb;have les:=hp.les;have ez:=hp.caps;have capb:=bu;have caps:=ez;have jc:=Z0.lt;unfold maxLen at capb caps;clear hW X0 Z0 hp hs;unfold Pl.val St.val;refine(callsIn_wide (n:=9)).1 ?_;refine callsIn_of_wp_marks func22 rfl trivial ?_ rfl;simp only[ntmps22,List.size_toArray,List.length_cons,List.length_nil,Nat.reduceAdd,Nat.reduceSub,Array.replicate_succ,Array.replicate_zero,List.push_toArray,List.append_toArray,Xqx,Xqz]
 gi_wp2_with fail
 rw[HW.out];refine wpIn_wide.2 (wp_scope_straight ((wpIn_wide (n:=9)).1 ?_));obtain⟨⟨⟨l1,d0,d1⟩,l2,c0,c1,c2,c3,c4,c5,c6⟩,-,-,-,-⟩:=HC.out o brf
 gi_wp2_with(refine⟨trivial,?_⟩;(first|gi_at_call 28|gi_at_call 51|gi_at_call 64|gi_at_call 50|gi_at_call 65);refine Rc ?_)
 clear l1 d0 d1 l2 c0 c1 c2 c3 c4 c5 c6;refine Hq ?_;obtain⟨X,ar,a6,ac,hz⟩:=HC.out o brf;refine(callsIn_wide.2 (lm p s o ar a6)).mono ?_;rintro e L ⟨rfl,hB⟩;clear X ar a6 ac hz HW;obtain⟨⟨⟨l1,d0,d1⟩,l2,c0,c1,c2,c3,c4,c5,c6⟩,ar,a6,ac,hz⟩:=HC.out L hB;by_cases h0:ah p s=0;rotate_left
 .have bh:=hid h0;have g0:(ah p s !=0)=true:=by simpa using h0
  clear h0 ar a6;obtain⟨zl,gc,gh,fu,zc1,gm,zc2,dc,zc3,gq,zc4,fi,zc5,gs,f9⟩:=z7 hz
  gi_wp2_with fail
  have KZ:=n7b hz;have av:=n7w (b:=w.heap.size+2) ac (by omega);unfold set7 at KZ av;obtain⟨b2,b7,cg,b9,b6,b8,b5⟩:=co KZ;refine V9 (v := .tuple #[ng.val,.int .i64 (ah p s)]) (by simp[results,results22,go_sem,ng,St.val,b2,b7,cg,b9,b6,b8,b5]) rfl ?_;exact⟨ng,rfl,y9 _,⟨λh=>absurd h (bh.out),λ_=>⟨rfl,rfl,rfl,rfl,rfl,rfl,rfl⟩⟩,λh=>absurd h (bh.out),av⟩
 have HR:Hid (au p s):=ew h0;have H0:=hid h0;have ft:Hid (Calls prog 51 #[s.val] L λe w'=>∃s':St,e = .returned s'.val/\ae s' s/\ai L.heap.size w' s'/\Below L.heap.size L w'):=nf p s L a6 HR.out.fm;rw[h0];clear h0 ar a6 ac hz
 gi_wp2_with(refine⟨trivial,?_⟩;(first|gi_at_call 28|gi_at_call 51|gi_at_call 64|gi_at_call 50|gi_at_call 65);refine Rc ?_)
 refine Hq ?_;refine(callsIn_wide.2 ft.out).mono ?_;rintro e w4 ⟨i,rfl,di,ef,dp⟩;clear ft l1 d0 d1 l2 c0 c1 c2 c3 c4 c5 c6;obtain⟨E,fq,cr,K5⟩:=ab7 w4 i;have d8:=hid fq;have cp:=dp.trans (cr.mono dp.size);have A2:o.heap.size<=L.heap.size:=hB.size;have A3:L.heap.size<=w4.heap.size:=dp.size;have dh:Hid (dg L.heap.size w4.heap.size o i E):=⟨ai.below ef cr,K5,hB.trans (cp.mono hB.size),by have:=cp.size;omega⟩;have ir:=hid di;obtain⟨⟨⟨l1,d0,d1⟩,l2,c0,c1,c2,c3,c4,c5,c6⟩,ar,a6,ac,hz⟩:=HC.out E dh.out.bel;clear fq ef K5 dp cr cp di hB ar a6 ac hz l2 c0 c1 c2 c3 c4 c5 c6;rw[<-d8.out] at l1 d0 d1;simp only[St.val]
 gi_wp2_with fail
 refine wpIn_label ?_;rw[d8.out];rw[d8.out] at l1 d0 d1
 gi_wp2_with(refine⟨trivial,?_⟩;(first|gi_at_call 28|gi_at_call 51|gi_at_call 64|gi_at_call 50|gi_at_call 65);refine Rc ?_)
 refine Hq ?_;clear l1 d0 d1;refine(Du Fence.wide _ trivial rfl p true E).mono ?_;rintro e w' ⟨rfl,rfl⟩
 gi_wp2_with fail
 generalize hB7:w4.heap.size=P at *
 have jl:P<E.heap.size:=dh.out.box.lt;obtain⟨W6,f1,s6,ge,kF,cP⟩:∃W,(E.alloc (.cells #[.slice p.ab p.nb p.cb,.slice p.sa p.ns p.cs] 25)).alloc (.cells #[.bool true] 4)=W/\W.heap.size=E.heap.size+2/\Below E.heap.size E W/\Blk W (E.heap.size+1) 4 1 (λ_ => .bool true)/\W.cell? ⟨E.heap.size,0,none⟩=some (.slice p.ab p.nb p.cb):=
  ⟨_,rfl,by simp,(brf.alloc nlr _).alloc (by simp) _,(Blk.mk' (cur:=#[.bool true]) (by simp) rfl).congr (λj hj=>by match j,hj with|0,_=>rfl),((Blk.new E #[.slice p.ab p.nb p.cb,.slice p.sa p.ns p.cs] 25).alloc (.cells #[.bool true] 4)).cell (j:=0) (by simp)⟩
 rw[f1];have d7:=hid (dh.out.below ge);have bt:o.heap.size<=W6.heap.size:=d7.out.bel.size;have i5:o.heap.size<=E.heap.size:=dh.out.bel.size;have io:Hid (∀d,Below o.heap.size W6 d->sl d p.ab p.nb p.zb):=λd h=>(HC.out d (d7.out.bel.trans h)).2.1.bins;have h7:Hid (uh p L.heap.size P (E.heap.size+1) o (mj p [] s) W6):=⟨⟨i,ir.out,d7.out⟩,kF⟩;clear f1 ge hB7;have cF:=kF.k 0;refine wpIn_rangeFunc_ownH rfl (by decide) (gf:=113) (lb:=#[.pointer (some ⟨E.heap.size,0,none⟩),.pointer (some ⟨E.heap.size+1,0,none⟩)]) rfl trivial (enters_of func113 (by kernel_rfl) rfl)
  (J0 Fence.wide _ trivial rfl (by decide) E.heap.size (E.heap.size+1) o.heap.size p true W6 (by omega) (by omega) bt cP cF leb bu io.out) F0 (Fg bt (by omega)) brf (λ_=>rfl)
  (λpre W=>uh p L.heap.size P (E.heap.size+1) o (mj p pre s) W)
  (λc pre W=>B8 p L.heap.size P o c (mj p pre s) W)
  (λpre X Y row hs hg hr=>hs.ck hg hr bt)
  (λc pre X Y row hs hg hr=>hs.ck hg hr bt)
  h7.out
  (λb a' W=>∃Bx,Blk W Bx 3 1 (λ_ => .int .i64 (b.1:Int))/\a'={ tmps:=#[.agg #[.slice p.ab p.nb p.cb,.slice p.sa p.ns p.cs],.agg #[.slice s.on.a s.on.n s.on.c,.slice s.os.a s.os.n s.os.c,.slice s.hs.a s.hs.n s.hs.c,.slice s.ms.a s.ms.n s.ms.c,.slice s.si.a s.si.n s.si.c,.slice s.so.a s.so.n s.so.c,.slice s.sf.a s.sf.n s.sf.c],.pointer (some ⟨w.heap.size,0,none⟩),.pointer (some ⟨w.heap.size+1,0,none⟩),.pointer (some ⟨w.heap.size+1+1,0,none⟩),.int .i64 0,.int .i64 0,.pointer (some ⟨P,0,none⟩),.pointer (some ⟨Bx,0,none⟩),undef,undef,undef,.agg #[.slice p.ab p.nb p.cb,.slice p.sa p.ns p.cs],.agg #[.slice s.on.a s.on.n s.on.c,.slice s.os.a s.os.n s.os.c,.slice s.hs.a s.hs.n s.hs.c,.slice s.ms.a s.ms.n s.ms.c,.slice s.si.a s.si.n s.si.c,.slice s.so.a s.so.n s.so.c,.slice s.sf.a s.sf.n s.sf.c],.int .i64 0,.int .i64 0,.bool false,undef,undef,.agg #[.slice s.on.a s.on.n s.on.c,.slice s.os.a s.os.n s.os.c,.slice s.hs.a s.hs.n s.hs.c,.slice s.ms.a s.ms.n s.ms.c,.slice s.si.a s.si.n s.si.c,.slice s.so.a s.so.n s.so.c,.slice s.sf.a s.sf.n s.sf.c],.agg #[.slice i.on.a i.on.n i.on.c,.slice i.os.a i.os.n i.os.c,.slice i.hs.a i.hs.n i.hs.c,.slice i.ms.a i.ms.n i.ms.c,.slice i.si.a i.si.n i.si.c,.slice i.so.a i.so.n i.so.c,.slice i.sf.a i.sf.n i.sf.c],.agg #[.slice p.ab p.nb p.cb,.slice p.sa p.ns p.cs],.func (.func 113) #[] #[.pointer (some ⟨E.heap.size,0,none⟩),.pointer (some ⟨E.heap.size+1,0,none⟩)],.int .i64 (b.1:Int),undef,undef,undef,undef,undef,undef,undef,undef,undef,undef,undef,undef,undef,undef,undef,undef,undef,undef,undef,undef,undef,undef,undef,undef,undef,undef,undef,undef,undef,undef,undef,undef,undef,undef,undef,undef,undef,undef,undef,undef,undef,undef,undef,undef],defers:=[] })
  (λb a' _ X Y row hs hg hr=>by obtain⟨Bx,h1,h2⟩:=hs;exact⟨Bx,h1.ck (ji.of hg λr e=>(hr r e).2),h2⟩)
  ?assign ?body ?done ?stop
 case assign =>
  rintro l pre b W K hi hK
  gi_wp2
  exact hK _ _ ((KeepsOthers.alloc _ _).from _) (Jb ((Below.refl _ W).alloc (by have:=hi.1.choose_spec.2.bel.size;omega) _) hi.2 (hi.2.alloc _)) (hi.below (brf.alloc nlr _)) ⟨W.heap.size,(Blk.mk' (cur:=#[.int .i64 (b.1:Int)]) rfl rfl).congr (λj hj=>by match j,hj with|0,_=>rfl),rfl⟩
 case body =>
  rintro l pre b a' W hl ⟨r,hr⟩ hi ⟨Bx,a2,rfl⟩ jk;obtain⟨b,ad,cc⟩:=b;dsimp only at a2 ⊢;obtain⟨Yb,c9⟩:∃y,mj p pre s=y:=⟨_,rfl⟩;have fh:Hid (mj p (pre++[⟨b,ad,cc⟩]) s=i8 p b p.ns Yb):=by show _=_;rw[Lu,c9]
  have h6:Hid (gt p s Yb):=by show gt p s Yb;rw[<-c9];exact(gt.refl HR.out).B _
  rw[c9] at hi;have fo:=qa2 hl hr;have HJ:Hid (uh p L.heap.size P (E.heap.size+1) o (i8 p b 0 Yb) W/\Blk W Bx 3 1 (λ_ => .int .i64 (b:Int))/\Below o.heap.size W W/\KeepsFrom W6.heap.size W W):=⟨hi,a2,Below.refl _ _,KeepsFrom.refl _ _⟩;have cw:=hid hi;obtain⟨⟨y0,im,gn⟩,ha⟩:=hi;obtain⟨⟨⟨l1,d0,d1⟩,l2,c0,c1,c2,c3,c4,c5,c6⟩,-,-,-,-⟩:=HC.out W gn.bel;have q0:(0:Int)<=(b:Int):=by omega
  have q1:(b:Int)<(p.nb:Int):=by omega
  clear hl hr c9 im gn ha a2 l2 c0 c1 c2 c3 c4 c5 c6
  gi_wp2_with fail
  clear l1 d0 d1
  gi_loopw [27] (λgv wk=>∃g:Nat,g<=p.ns/\gv = .int .i64 g/\Hid (uh p L.heap.size P (E.heap.size+1) o (i8 p b g Yb) wk/\Blk wk Bx 3 1 (λ_ => .int .i64 (b:Int))/\Below o.heap.size W wk/\KeepsFrom W6.heap.size W wk)) (λgv _=>p.ns-(intOf gv).toNat)
  case atStart=>exact⟨0,Qxz _,rfl,HJ⟩
  clear HJ;obtain⟨g,hg,rfl,HJ⟩:=hrel;by_cases br:g<p.ns;rotate_left
  .have hf:g=p.ns:=by omega
   have r1:(p.ns:Int)<=(g:Int):=by omega
   gi_wp2_with fail
   refine⟨HJ.out.2.2.2,Jb HJ.out.2.2.1 cw.out.2 HJ.out.1.2,?_⟩;show uh p L.heap.size P (E.heap.size+1) o (mj p (pre++[⟨b,ad,cc⟩]) s) _;rw[fh.out,<-hf];exact HJ.out.1
  have r0:(0:Int)<=(g:Int):=by omega
  have r1:(g:Int)<(p.ns:Int):=by omega
  obtain⟨S,db⟩:∃z,i8 p b g Yb=z:=⟨_,rfl⟩;have dk:=hid db;have cx:Hid (gt p s S):=by show gt p s S;rw[<-db];exact h6.out.G ad cc hg
  rw[db] at HJ;clear db;obtain⟨⟨⟨y,dd,ee⟩,-⟩,-,-,-⟩:=HJ.out;have gr:=hid dd;have h4:Hid (au p y):=dd.right cx.out.r;have iq:Hid (dx y b g=dx S b g):=dd.lying cx.out.r.fm ad br;obtain⟨W8,gk,a4,K8⟩:∃d,wr.alloc (.cells #[.int .i64 (g:Int)] 3)=d/\Below wr.heap.size wr d/\Blk d wr.heap.size 3 1 (λ_ => .int .i64 (g:Int)):=⟨_,rfl,brf.alloc nlr _,(Blk.mk' (cur:=#[.int .i64 (g:Int)]) rfl rfl).congr (λj hj=>by match j,hj with|0,_=>rfl)⟩;have fj:Hid (wr.alloc (.cells #[.int .i64 (g:Int)] 3)=W8):=gk;have V:=hid (ee.below a4);have a8:=hid K8;have a3:=hid (HJ.out.2.1.below a4);have bd:=hid (HJ.out.1.2.below a4);have gz:o.heap.size<=wr.heap.size:=ee.bel.size;have U:Hid (Below o.heap.size W W8/\KeepsFrom W6.heap.size W W8):=⟨HJ.out.2.2.1.trans (a4.mono gz),HJ.out.2.2.2.trans ((tm a4).from _)⟩;clear gk a4 K8 dd ee HJ
  gi_wp2_with fail
  rw[fj.out];clear fj
  generalize wr.heap.size=Bg at *
  obtain⟨⟨⟨l1,d0,d1⟩,l2,c0,c1,c2,c3,c4,c5,c6⟩,ar,-,-,-⟩:=HC.out W8 V.out.bel;obtain⟨bb,ob,ea,f3,z0,z1,z2,z3⟩:=ar.bins b ad;have je:=hid ea;rw[ea] at d0;obtain⟨m1,p0,p1,p2,p3,p4,p5,p6⟩:=Boxed.of V.out.box;have cy:=a3.out.k 0;have c7:=a3.out.lt;have dj:=a8.out.k 0;have d5:=a8.out.lt;have dm:=hid V.out.own.at;have de:Hid (∀wk,y.At wk->Calls prog 50 #[.agg #[.slice y.on.a y.on.n y.on.c,.slice y.os.a y.os.n y.os.c,.slice y.hs.a y.hs.n y.hs.c,.slice y.ms.a y.ms.n y.ms.c,.slice y.si.a y.si.n y.si.c,.slice y.so.a y.so.n y.so.c,.slice y.sf.a y.sf.n y.sf.c],.int .i64 b,.int .i64 g] wk λe w'=>e = .returned (.int .i64 (dx S b g))/\Below wk.heap.size wk w'):=λwk h=>by
   have k:=It p y b g wk h h4.out.fm ad br;rw[iq.out] at k;exact k
  have ly:=Oz cx.out.r.fm ad br;have jh:=Fq HR.out.fm.sh.pl ad;have f4:=Qqq d0;have f7:=Qqq z2;have fv:=Qqq p0;have f6:=Qqq p1;have gg:=Qqq p2;have fw:=Qqq p3;have fn:=Qqq p4;have fx:=Qqq p5;have fy:=Qqq p6;have es:=Qqq cy;have eTz:=Qqq dj;have fk:Hid ((p.zb b).low<=dx S b g->i8 p b (g+1) Yb=S):=λh=>by rw[Oi (by rw[dk.out];exact h),dk.out]
  have gl:Hid (¬(p.zb b).low<=dx S b g->i8 p b (g+1) Yb=jp p b g (frX p false p.nb) S):=λh=>by rw[Qr (by rw[dk.out];exact h),dk.out]
  generalize dx S b g=LY at *
  generalize (p.zb b).low=LW at *
  clear ea ar l2 c0 c1 c2 c3 c4 c5 c6 d0 d1 z0 z1 z2 z3 p0 p1 p2 p3 p4 p5 p6 cy dj;by_cases eh:LW<=LY
  .refine vp (by kernel_rfl) (by kernel_rfl) (by kernel_rfl) ?_
   repeat(gi_big_quiet_step (fail))
   refine wpQuietIn_step (λ_ _ _ _=>trivial) (λK hK => ?_)
   go_simp
   apply Exists.intro
   refine⟨λ_ => ?_,hK _ ?_⟩
   ·(gi_at_call 50;exact CallsIn.regrown_of (CallsIn.inRound l (callsIn_wide.2 (de.out _ (dm.out.below (Qxx _ _ _))))))
   clear hK K
   repeat(gi_big_quiet_step (fail))
   refine wpQuietIn_nil ?_;intro H ch;have M:=af ch;have V:=hid (V.out.below M);have a8:=hid (a8.out.below M);have a3:=hid (a3.out.below M);have bd:=hid (bd.out.below M);have U:Hid (Below o.heap.size W H/\KeepsFrom W6.heap.size W H):=⟨U.out.1.trans (M.mono (by have:=U.out.1.size;have:=cw.out.1.choose_spec.2.bel.size;omega)),U.out.2.trans ((tm M).from _)⟩;clear ch M dm de f4 f7 fv f6 gg fw fn fx fy es eTz m1 c7 d5 f3 l1;have HJ:Hid (uh p L.heap.size P (E.heap.size+1) o (i8 p b (g+1) Yb) H/\Blk H Bx 3 1 (λ_ => .int .i64 (b:Int))/\Below o.heap.size W H/\KeepsFrom W6.heap.size W H):=by
    show _/\_;rw[fk.out eh];exact⟨⟨⟨y,gr.out,V.out⟩,bd.out⟩,a3.out,U.out⟩
   gi_wp2_with fail
   go_roundw
   case rel=>exact⟨g+1,by omega,by go_num,HJ⟩
   case measure=>simp[intOf];omega
  refine vp (by kernel_rfl) (by kernel_rfl) (by kernel_rfl) ?_
  repeat(gi_big_quiet_step (fail))
  refine wpQuietIn_step (λ_ _ _ _=>trivial) (λK hK => ?_)
  go_simp
  apply Exists.intro
  refine⟨λ_ => ?_,hK _ ?_⟩
  ·(gi_at_call 50;exact CallsIn.regrown_of (CallsIn.inRound l (callsIn_wide.2 (de.out _ (dm.out.below (Qxx _ _ _))))))
  clear hK K
  repeat(gi_big_quiet_step (fail))
  refine wpQuietIn_nil ?_;intro H ch;have M:=af ch;have V:=hid (V.out.below M);have a8:=hid (a8.out.below M);have a3:=hid (a3.out.below M);have bd:=hid (bd.out.below M);have U:Hid (Below o.heap.size W H/\KeepsFrom W6.heap.size W H):=⟨U.out.1.trans (M.mono (by have:=U.out.1.size;have:=cw.out.1.choose_spec.2.bel.size;omega)),U.out.2.trans ((tm M).from _)⟩;clear ch M dm de f4 f7 fv f6 gg fw fn fx fy es eTz m1 c7 d5 f3 l1;have fl:Hid (i8 p b (g+1) Yb=jp p b g (frX p false p.nb) S):=gl.out eh;obtain⟨⟨⟨l1,d0,d1⟩,-,-,-,-,-,-,-,-⟩,-,-,-,-⟩:=HC.out H V.out.bel;clear fk gl eh
  gi_wp2_with(refine⟨trivial,?_⟩;(first|gi_at_call 28|gi_at_call 51|gi_at_call 64|gi_at_call 50|gi_at_call 65);refine Rc ?_)
  refine Hq ?_;clear l1 d0 d1;refine(CallsIn.inRound l (Du Fence.wide _ trivial rfl p false H)).mono ?_;rintro e w' ⟨rfl,rfl⟩
  gi_wp2_with fail
  obtain⟨Q,eg,jg,ay,gp,iu⟩:∃d,(H.alloc (.cells #[.slice p.ab p.nb p.cb,.slice p.sa p.ns p.cs] 25)).alloc (.cells #[.bool false] 4)=d/\d.heap.size=H.heap.size+2/\Below H.heap.size H d/\Blk d (H.heap.size+1) 4 1 (λ_ => .bool false)/\d.cell? ⟨H.heap.size,0,none⟩=some (.slice p.ab p.nb p.cb):=
   ⟨_,rfl,by simp,(brf.alloc nlr _).alloc (by simp) _,(Blk.mk' (cur:=#[.bool false]) (by simp) rfl).congr (λj hj=>by match j,hj with|0,_=>rfl),((Blk.new H #[.slice p.ab p.nb p.cb,.slice p.sa p.ns p.cs] 25).alloc (.cells #[.bool false] 4)).cell (j:=0) (by simp)⟩
  rw[eg];have hw:o.heap.size<=H.heap.size:=V.out.bel.size;have ga:o.heap.size<=W.heap.size:=cw.out.1.choose_spec.2.bel.size;have jf:W.heap.size<=H.heap.size:=U.out.1.size;have fs:Hid (Below o.heap.size W Q/\KeepsFrom W6.heap.size W Q):=⟨U.out.1.trans (ay.mono hw),U.out.2.trans ((tm ay).from _)⟩;have hx:Hid ((uh p L.heap.size P (E.heap.size+1) o (jp p b g [] S) Q/\Blk Q Bx 3 1 (λ_ => .int .i64 (b:Int))/\Blk Q Bg 3 1 (λ_ => .int .i64 (g:Int)))/\Blk Q (H.heap.size+1) 4 1 (λ_ => .bool false)/\(Below o.heap.size W Q/\KeepsFrom W6.heap.size W Q)):=⟨⟨⟨⟨y,gr.out,V.out.below ay⟩,bd.out.below ay⟩,a3.out.below ay,a8.out.below ay⟩,gp,fs.out⟩;have hn:Hid (∀d,Below o.heap.size Q d->sl d p.ab p.nb p.zb):=λd h=>(HC.out d ((V.out.below ay).bel.trans h)).2.1.bins;have a5:o.heap.size<=Q.heap.size:=by omega
  have ia:=gp.k 0;have ie:Q.heap[l]?=some (.loop r):=fs.out.2.same l (.loop r) fo.out.1 fo.out.2 rfl;clear eg V a8 a3 bd U;refine wpIn_rangeFunc_ownN (l₀:=l) (r₀:=r) rfl ie (by decide) (gf:=113) (lb:=#[.pointer (some ⟨H.heap.size,0,none⟩),.pointer (some ⟨H.heap.size+1,0,none⟩)]) rfl trivial (enters_of func113 (by kernel_rfl) rfl)
   ((J0 Fence.wide _ trivial rfl (by decide) H.heap.size (H.heap.size+1) o.heap.size p false Q (by omega) (by omega) a5 iu ia leb bu hn.out).inRound l) F0 (Fg a5 (by omega)) brf (λ_=>rfl)
   (λA d=>(uh p L.heap.size P (E.heap.size+1) o (jp p b g A S) d/\Blk d Bx 3 1 (λ_ => .int .i64 (b:Int))/\Blk d Bg 3 1 (λ_ => .int .i64 (g:Int)))/\Blk d (H.heap.size+1) 4 1 (λ_ => .bool false)/\(Below o.heap.size W d/\KeepsFrom W6.heap.size W d))
   (λc A d=>B8 p L.heap.size P o c (jp p b g A S) d/\(Below o.heap.size W d/\KeepsFrom W6.heap.size W d))
   (λA X Y row hs hg hr=>⟨⟨hs.1.1.ck hg hr a5,hs.1.2.1.ck (ji.of hg λr e=>(hr r e).2),hs.1.2.2.ck (ji.of hg λr e=>(hr r e).2)⟩,hs.2.1.ck (ji.of hg λr e=>(hr r e).2),hs.2.2.1.grown hg (Qzx ga hs.2.2.1.size) (λk e=>Qzx a5 (hr k e).1),ownFrom_keepsFrom (B:=W6.heap.size) (w₀:=W) (B':=Q.heap.size) (by omega) () X Y row hs.2.2.2 hg hr⟩)
   (λc A X Y row hs hg hr=>⟨hs.1.ck hg hr a5,hs.2.1.grown hg (Qzx ga hs.2.1.size) (λk e=>Qzx a5 (hr k e).1),ownFrom_keepsFrom (B:=W6.heap.size) (w₀:=W) (B':=Q.heap.size) (by omega) () X Y row hs.2.2 hg hr⟩)
   hx.out
   (λf fr _=>fr={ tmps:=#[.agg #[.slice p.ab p.nb p.cb,.slice p.sa p.ns p.cs],.agg #[.slice s.on.a s.on.n s.on.c,.slice s.os.a s.os.n s.os.c,.slice s.hs.a s.hs.n s.hs.c,.slice s.ms.a s.ms.n s.ms.c,.slice s.si.a s.si.n s.si.c,.slice s.so.a s.so.n s.so.c,.slice s.sf.a s.sf.n s.sf.c],.pointer (some ⟨w.heap.size,0,none⟩),.pointer (some ⟨w.heap.size+1,0,none⟩),.pointer (some ⟨w.heap.size+1+1,0,none⟩),.int .i64 0,.int .i64 0,.pointer (some ⟨P,0,none⟩),.pointer (some ⟨Bx,0,none⟩),.pointer (some ⟨Bg,0,none⟩),.int .i64 (f.1:Int),u11,.agg #[.slice p.ab p.nb p.cb,.slice p.sa p.ns p.cs],.agg #[.slice s.on.a s.on.n s.on.c,.slice s.os.a s.os.n s.os.c,.slice s.hs.a s.hs.n s.hs.c,.slice s.ms.a s.ms.n s.ms.c,.slice s.si.a s.si.n s.si.c,.slice s.so.a s.so.n s.so.c,.slice s.sf.a s.sf.n s.sf.c],.int .i64 0,.int .i64 0,.bool false,undef,undef,.agg #[.slice s.on.a s.on.n s.on.c,.slice s.os.a s.os.n s.os.c,.slice s.hs.a s.hs.n s.hs.c,.slice s.ms.a s.ms.n s.ms.c,.slice s.si.a s.si.n s.si.c,.slice s.so.a s.so.n s.so.c,.slice s.sf.a s.sf.n s.sf.c],.agg #[.slice i.on.a i.on.n i.on.c,.slice i.os.a i.os.n i.os.c,.slice i.hs.a i.hs.n i.hs.c,.slice i.ms.a i.ms.n i.ms.c,.slice i.si.a i.si.n i.si.c,.slice i.so.a i.so.n i.so.c,.slice i.sf.a i.sf.n i.sf.c],.agg #[.slice p.ab p.nb p.cb,.slice p.sa p.ns p.cs],.func (.func 113) #[] #[.pointer (some ⟨E.heap.size,0,none⟩),.pointer (some ⟨E.heap.size+1,0,none⟩)],.int .i64 (b:Int),.pointer (some ⟨w.heap.size,1,none⟩),.slice p.sa p.ns p.cs,.int .i64 (p.ns:Int),.int .i64 (g:Int),.bool true,.int .i64 (g:Int),.agg #[.slice y.on.a y.on.n y.on.c,.slice y.os.a y.os.n y.os.c,.slice y.hs.a y.hs.n y.hs.c,.slice y.ms.a y.ms.n y.ms.c,.slice y.si.a y.si.n y.si.c,.slice y.so.a y.so.n y.so.c,.slice y.sf.a y.sf.n y.sf.c],.int .i64 (b:Int),.int .i64 (g:Int),.int .i64 LY,.pointer (some ⟨w.heap.size,0,none⟩),.slice (some ⟨bb,ob,none⟩) p.nb p.cb,.int .i64 (b:Int),.pointer (some ⟨bb,ob+b*4,none⟩),.pointer (some ⟨bb,ob+b*4+2,none⟩),.int .i64 LW,.bool false,.agg #[.slice p.ab p.nb p.cb,.slice p.sa p.ns p.cs],.func (.func 113) #[] #[.pointer (some ⟨H.heap.size,0,none⟩),.pointer (some ⟨H.heap.size+1,0,none⟩)],.int .i64 (f.1:Int),u44,u45,u46,u47,u48,u49,u50,u51,u52,u53,u54,u55,u56,u57,u58,u59,u60,u61,u62,u63,u64,u65,u66,undef],defers:=[] })
   (λ_ _ _ _ _ _ hs _ _=>hs)
   ?assign2 ?body2 ?done2 ?stop2
  case assign2 =>
   rintro l2 A f d K hi hK
   gi_wp2
   exact hK _ _ (KeepsFrom.refl _ _) ⟨Below.refl _ _,λ_ h=>h⟩ hi rfl
  case done2 =>
   rintro xs d rfl hi;have HJ:Hid (uh p L.heap.size P (E.heap.size+1) o (i8 p b (g+1) Yb) d/\Blk d Bx 3 1 (λ_ => .int .i64 (b:Int))/\Below o.heap.size W d/\KeepsFrom W6.heap.size W d):=by
    show _/\_;rw[fl.out];exact⟨hi.1.1,hi.1.2.1,hi.2.2⟩
   clear hi
   gi_wp2_with fail
   go_roundw
   case rel=>exact⟨g+1,by omega,by go_num,HJ⟩
   case measure=>simp[intOf];omega
  case stop2 =>
   rintro c A d bl ⟨⟨rfl,h8,z,be,bq⟩,eo,dl⟩;have e1:jp p b g (frX p false p.nb) S=jp p b g A S:=Xb bl rfl h8;have e2:i8 p b p.ns Yb=jp p b g A S:=Oy (fl.out.trans e1) h8 (by omega);have cd:Hid (B8 p L.heap.size P o (.exit 0) (mj p (pre++[⟨b,ad,cc⟩]) s) d):=by
    show B8 _ _ _ _ _ _ _;rw[fh.out,e2];exact⟨rfl,h8,z,be,bq⟩
   clear e1 e2 bl h8 be bq
   gi_wp2_with fail
   exact⟨dl,cd.out⟩
  case body2 =>
   rintro l2 A f fr d - - hi rfl -;obtain⟨f,bo,cz⟩:=f;dsimp only;obtain⟨YF,da⟩:∃z,jp p b g A S=z:=⟨_,rfl⟩;have cd:Hid (jp p b g (A++[⟨f,bo,cz⟩]) S=nj p b g f YF):=by show _=_;rw[Ll,da]
   have gj:Hid (gt p s YF):=by show gt p s YF;rw[<-da];exact cx.out.F ad cc br _
   rw[da] at hi;clear da;obtain⟨⟨⟨⟨z,be,bq⟩,eu⟩,eq,ep⟩,ej,eo,dl⟩:=hi;have HS:=hid be;have f0:Hid (au p z):=be.right gj.out.r;have er:=hid be.ms.1;have HK:=hid bq;have ca:Hid (Below o.heap.size W d/\KeepsFrom W6.heap.size W d):=⟨eo,dl⟩;have J:=qa4 eu eq ep ej;have b0:o.heap.size<=d.heap.size:=bq.bel.size;have ms8:=f0.out.fm.ms8;obtain⟨m1,p0,p1,p2,p3,p4,p5,p6⟩:=Boxed.of HK.out.box;clear be bq eo dl eu eq ep ej;by_cases h8:z.ms.n=8
   .have hd:((z.ms.n:Int)==8)=true:=by rw[beq_iff_eq];omega
    have hh:Hid (B8 p L.heap.size P o (.exit 0) (jp p b g (A++[⟨f,bo,cz⟩]) S) d):=by
     show B8 _ _ _ _ _ _ _;rw[cd.out,Cu (by rw[<-er.out];omega)];exact⟨rfl,by rw[<-er.out];omega,z,HS.out,HK.out⟩
    clear h8
    gi_wp2_with fail
    exact⟨KeepsFrom.refl _ _,hh.out,ca.out⟩
   have hd:((z.ms.n:Int)==8)=false:=beq_eq_false_iff_ne.2 (by omega);have ih:z.ms.n<8:=by omega
   obtain⟨dn,eb,bz,f5⟩:∃X,d.alloc (.cells #[.int .i64 (g:Int),.int .i64 (f:Int),.int .i64 (b:Int),.int .i64 0] 77)=X/\Below d.heap.size d X/\Blk X d.heap.size 77 4 (λj=>(#[.int .i64 (g:Int),.int .i64 (f:Int),.int .i64 (b:Int),.int .i64 0]:Array Value).getD j default):=⟨_,rfl,brf.alloc nlr _,Blk.mk' rfl rfl⟩;have ci:Hid (d.alloc (.cells #[.int .i64 (g:Int),.int .i64 (f:Int),.int .i64 (b:Int),.int .i64 0] 77)=dn):=eb;have cq:=hid bz;have ev:=hid f5;have bi:=hid (HK.out.below bz);have cy:=J.out.2.1.k 0;have c7:=J.out.2.1.lt;have dj:=J.out.2.2.1.k 0;have g2:=J.out.2.2.1.lt;obtain⟨⟨⟨l1,d0,d1⟩,-,-,-,-,-,-,-,-⟩,-,-,-,-⟩:=HC.out dn bi.out.bel;obtain⟨n1,e0,e1,e2,e3,e4,e5,e6⟩:=Boxed.of bi.out.box;rw[<-ci.out] at l1 d0 d1 n1 e0 e1 e2 e3 e4 e5 e6;clear eb bz f5 h8
   gi_wp2_with(refine⟨trivial,?_⟩;(first|gi_at_call 28|gi_at_call 51|gi_at_call 64|gi_at_call 50|gi_at_call 65);refine Rc ?_)
   refine Hq ?_;rw[ci.out];clear l1 d0 d1 n1 e0 e1 e2 e3 e4 e5 e6 m1 p0 p1 p2 p3 p4 p5 p6 cy c7 dj g2 ci;refine(CallsIn.inRound l2 (CallsIn.inRound l (callsIn_wide.2 (Um p z g f b 0 dn (HC.out dn bi.out.bel).2.1 bi.out.own.at f0.out br bo ad)))).mono ?_;rintro e ao ⟨rfl,cv⟩;have bh:Hid (o5 p z b g f=o5 p YF b g f):=Fd HS.out gj.out.r.fm ad br bo
   generalize o5 p z b g f=NN at *
   have gd:=cq.out.trans (cv.mono cq.out.size);have b3:=ev.out.below cv;have zl:=b3.lt;have dc:=b3.frozen 3;have zc3:=b3.k 3;have T:Hid (Below d.heap.size d (ao.setCell ⟨d.heap.size,3,none⟩ (.int .i64 NN))):=gd.setCell (p:=⟨d.heap.size,3,none⟩) nlr _;have bp:Blk (ao.setCell ⟨d.heap.size,3,none⟩ (.int .i64 NN)) d.heap.size 77 4 (λj=>(#[.int .i64 (g:Int),.int .i64 (f:Int),.int .i64 (b:Int),.int .i64 NN]:Array Value).getD j default):=(b3.set 3 _).congr λj hj=>by match j,hj with|0,_=>rfl|1,_=>rfl|2,_=>rfl|3,_=>rfl
   have a7:=hid (HK.out.below T.out);have i:=bp.k 0;have x1:=bp.k 1;have x2:=bp.k 2;have x3:=bp.k 3;have xl:=bp.lt;clear cv gd b3 ev bi cq bp;by_cases h1:1<=NN;rotate_left
   .have ex:Hid (ae z (jp p b g (A++[⟨f,bo,cz⟩]) S)):=by
     rw[cd.out];unfold nj;rw[<-bh.out,if_neg (λc=>h1 c.2)];exact HS.out
    clear bh
    gi_wp2_with fail
    refine⟨(tm T.out).from _,Jb (T.out.mono b0) J.out.2.2.2 (J.out.2.2.2.below T.out),⟨⟨⟨z,ex.out,a7.out⟩,J.out.1.below T.out⟩,J.out.2.1.below T.out,J.out.2.2.1.below T.out⟩,J.out.2.2.2.below T.out,ca.out.1.trans (T.out.mono b0),ca.out.2.trans ((tm T.out).from _)⟩
   have fz:Hid (nj p b g f YF=ix YF ⟨g,f,b,NN⟩):=by
    show _=_;unfold nj;rw[<-bh.out,if_pos ⟨by rw[<-er.out];exact ih,h1⟩]
   obtain⟨iM,hM,h9,hv,ip⟩:=info_parts C5;have ek:(ao.setCell ⟨d.heap.size,3,none⟩ (.int .i64 NN)).heap.size=ao.heap.size:=by simp
   obtain⟨d6,ct,bw⟩:∃X,(ao.setCell ⟨d.heap.size,3,none⟩ (.int .i64 NN)).alloc (.cells #[.int .i64 (g:Int),.int .i64 (f:Int),.int .i64 (b:Int),.int .i64 NN] 77)=X/\Below (ao.setCell ⟨d.heap.size,3,none⟩ (.int .i64 NN)).heap.size (ao.setCell ⟨d.heap.size,3,none⟩ (.int .i64 NN)) X:=⟨_,rfl,brf.alloc nlr _⟩;have en:Hid ((ao.setCell ⟨d.heap.size,3,none⟩ (.int .i64 NN)).alloc (.cells #[.int .i64 (g:Int),.int .i64 (f:Int),.int .i64 (b:Int),.int .i64 NN] 77)=d6):=ct;have fp:Hid (∀j u,(df ⟨g,f,b,NN⟩)[j]?=some u->d6.cell? ((⟨ao.heap.size,0,none⟩:Addr).add j)=some u):=by
    have h:=Zy (ao.setCell ⟨d.heap.size,3,none⟩ (.int .i64 NN)) ⟨g,f,b,NN⟩ 77;rw[ek] at h;rw[<-ct];exact h
   obtain⟨n1,e0,e1,e2,e3,e4,e5,e6⟩:=Boxed.of a7.out.box;have an:=hid (a7.out.below bw);have bx:=hid (T.out.trans (bw.mono T.out.size));have jj:=an.out.own.ms.1;have h5:=an.out.own.ms.2.1;unfold maxLen at h5;clear ct bw e0 e1 e2 e4 e5 e6 a7 T ek
   gi_wp2_with(gi_at_builtin;rw[en.out];refine Fl d6 rfl (.tmp 61) (.tmp 63) 29 rfl L.heap.size 77 iM (.agg #[.int .i64 0,.int .i64 0,.int .i64 0,.int .i64 0]) 4 32 underlying29 hM h9 hv ip rfl (by decide) z.ms.a z.ms.n z.ms.c (ax z.ms.n z.ms.z) rfl an.out.own.msr an.out.own.ms.1 an.out.own.ms.2.1 (ed _ _) an.out.own.ms.2.2.2 ⟨ao.heap.size,0,none⟩ 1 1 (df ⟨g,f,b,NN⟩) rfl rfl fp.out (λu hu=>by simp[df] at hu;rcases hu with rfl|rfl|rfl|rfl<;>rfl) (by decide) ?zc3 ?zc4 an.out.le ?_)
   case zc3=>unfold maxLen;omega
   case zc4=>omega
   intro v2 el c8 bk;obtain⟨k,rfl,f8,kn,kz,kl,a2⟩:=an.out.more A2 A3 c8 bk;have em:=hid bk;have ik:=hid f8;have ex:Hid (ae (withMoves z k) (jp p b g (A++[⟨f,bo,cz⟩]) S)):=by
    rw[cd.out,fz.out];exact C2 HS.out _ kn kz kl
   have ce:Hid (∀q t m g',t≠77->t≠31->Blk d q t m g'->Blk (el.setCell ⟨P,3,none⟩ (.slice k.a k.n k.c)) q t m g'):=λq t m g' h1 h2 hb=>by
    have h3:=em.out.blk (hb.below bx.out) h1;exact h3.other (a:=⟨P,3,none⟩) (Blk.ne2 h3 a2 h2) _
   have f2:Hid (Below o.heap.size d (el.setCell ⟨P,3,none⟩ (.slice k.a k.n k.c))):=(em.out.below (bx.out.mono b0) A2 (Qzx b0 bx.out.size)).setCell (p:=⟨P,3,none⟩) (by show o.heap.size<=P;omega) _;have gb:Hid (KeepsOthers d (el.setCell ⟨P,3,none⟩ (.slice k.a k.n k.c))):=((tm bx.out).trans em.out.keeps).trans (KeepsOthers.setCell _ _ _);have z1:=a2.lt;have z2:=a2.frozen 3;have z3:=a2.k 3;clear c8 bk f8 kn kz kl a2 fp en n1 e3 i x1 x2 x3 xl zl dc zc3 fz bh
   try simp only[Act.put,Qvq,Qwx,Qwz]
   gi_wp2_with fail
   refine⟨gb.out.from _,Jb f2.out J.out.2.2.2 (ce.out _ _ _ _ (by decide) (by decide) J.out.2.2.2),⟨⟨⟨withMoves z k,ex.out,ik.out⟩,ce.out _ _ _ _ (by decide) (by decide) J.out.1⟩,ce.out _ _ _ _ (by decide) (by decide) J.out.2.1,ce.out _ _ _ _ (by decide) (by decide) J.out.2.2.1⟩,ce.out _ _ _ _ (by decide) (by decide) J.out.2.2.2,ca.out.1.trans f2.out,ca.out.2.trans (gb.out.from _)⟩
 case done =>
  rintro D xs W hD rfl ⟨⟨x,b4,a1⟩,-⟩ hK;have ei:=hid b4;clear b4;obtain⟨m1,p0,p1,p2,p3,p4,p5,p6⟩:=Boxed.of a1.box;obtain⟨-,-,-,ac,hz⟩:=HC.out W a1.bel;have HZ:=qa2 ac hz;obtain⟨zl,gc,gh,fu,zc1,gm,zc2,dc,zc3,gq,zc4,fi,zc5,gs,f9⟩:=z7 hz;have gu:=(HC.out _ brf).2.2.2.1.size;have a7:=hid a1;have d9:=hid hK;clear ac hz a1 hK
  gi_wp2_with fail
  have KZ:=s7b HZ.out.2 x;have av:=s7w (b:=w.heap.size+2) HZ.out.1 (by omega) x;have cf:=s7o a7.out.own HZ.out.2 x;have bf:=(O6 (w:=W) (show D≠w.heap.size+2 by omega) (.slice x.on.a x.on.n x.on.c) (.slice x.os.a x.os.n x.os.c) (.slice x.hs.a x.hs.n x.hs.c) (.slice x.ms.a x.ms.n x.ms.c) (.slice x.si.a x.si.n x.si.c) (.slice x.so.a x.so.n x.so.c) (.slice x.sf.a x.sf.n x.sf.c)).trans d9.out;unfold set7 at KZ av cf bf;have ck:=ji.of (grownBy_putObj' _ D (.deferred none)) (λr e=>by cases e;exact⟨_,bf,rfl⟩);have ey:=KZ.ck ck;have bj:=cf.ck ck;have cm:=av.grown (grownBy_putObj' _ D (.deferred none)) (by have:=av.size;omega) (λk e=>by cases e;omega);obtain⟨b2,b7,cg,b9,b6,b8,b5⟩:=co ey;refine Io (v := .tuple #[x.val,.int .i64 0]) bf (by simp[results,results22,go_sem,St.val,b2,b7,cg,b9,b6,b8,b5]) rfl ?_;exact⟨x,by rw[H0.out];rfl,bj.at,⟨λ_=>ei.out,λh=>absurd H0.out h⟩,λ_=>bj.mono (by omega),cm⟩
 case stop =>
  rintro D c pre W hD bl ⟨rfl,h8,x,b4,a1⟩ hK;have ei:Hid (ae x (yp p s)):=by
   have e:yp p s=mj p pre s:=Xv bl rfl h8;rw[e];exact b4
  clear b4 h8 bl;obtain⟨m1,p0,p1,p2,p3,p4,p5,p6⟩:=Boxed.of a1.box;obtain⟨-,-,-,ac,hz⟩:=HC.out W a1.bel;have HZ:=qa2 ac hz;obtain⟨zl,gc,gh,fu,zc1,gm,zc2,dc,zc3,gq,zc4,fi,zc5,gs,f9⟩:=z7 hz;have gu:=(HC.out _ brf).2.2.2.1.size;have a7:=hid a1;have d9:=hid hK;clear ac hz a1 hK
  gi_wp2_with fail
  have KZ:=s7b HZ.out.2 x;have av:=s7w (b:=w.heap.size+2) HZ.out.1 (by omega) x;have cf:=s7o a7.out.own HZ.out.2 x;have bf:=(O6 (w:=W) (show D≠w.heap.size+2 by omega) (.slice x.on.a x.on.n x.on.c) (.slice x.os.a x.os.n x.os.c) (.slice x.hs.a x.hs.n x.hs.c) (.slice x.ms.a x.ms.n x.ms.c) (.slice x.si.a x.si.n x.si.c) (.slice x.so.a x.so.n x.so.c) (.slice x.sf.a x.sf.n x.sf.c)).trans d9.out;unfold set7 at KZ av cf bf;have ck:=ji.of (grownBy_putObj' _ D (.deferred none)) (λr e=>by cases e;exact⟨_,bf,rfl⟩);have ey:=KZ.ck ck;have bj:=cf.ck ck;have cm:=av.grown (grownBy_putObj' _ D (.deferred none)) (by have:=av.size;omega) (λk e=>by cases e;omega);obtain⟨b2,b7,cg,b9,b6,b8,b5⟩:=co ey;refine Io (v := .tuple #[x.val,.int .i64 0]) bf (by simp[results,results22,go_sem,St.val,b2,b7,cg,b9,b6,b8,b5]) rfl ?_;exact⟨x,by rw[H0.out];rfl,bj.at,⟨λ_=>ei.out,λh=>absurd H0.out h⟩,λ_=>bj.mono (by omega),cm⟩
theorem Wi(p:Pl)(s:St)(k n:Int)(w:World)(hp:p.At w)(hs:s.At w):
  Calls prog 23 #[p.val,s.val,.int .i64 k,.int .i64 n] w λe V=>∃x:St,e = .returned (.tuple #[x.val,.int .i64 (fp p s k n)])/\x.At V/\dv (fp p s k n) (je s k.toNat n) x/\(fp p s k n=0->ai w.heap.size V x)/\Below w.heap.size w V:=by
 obtain⟨W0,hW,fn,X0,Z0⟩:=zd w p s;have HC:=wv hp hs fn X0 Z0;have HW:=hid hW;have leb:=hp.leb;have bw:=hp.capb;have les:=hp.les;have bz:=hp.caps;have capb:=bw;have caps:=bz;have gq:=Z0.lt;unfold maxLen at capb caps;have dy:=hs.ms.le;have bj:=hs.ms.cap;have ak:s.ms.n<=maxLen:=Qzx dy bj;have ea:=bj;have du:=ak;unfold maxLen at ea du;clear hW X0 Z0 hp hs;unfold Pl.val St.val;go_enter func23,ntmps23;go_wp2_with fail;rw[HW.out];obtain⟨X,F,y,B,E⟩:=HC.out W0 brf;refine(lm p s W0 F y).mono ?_;rintro e w1 ⟨rfl,hB⟩;clear X F y B E HW;obtain⟨⟨⟨l1,d0,d1⟩,l2,c0,c1,c2,c3,c4,c5,c6⟩,F,y,B,E⟩:=HC.out w1 hB;by_cases h0:ah p s=0;rotate_left
 .have S:Hid (fp p s k n=ah p s):=v9 h0;have fa:Hid (¬fp p s k n=0):=by show ¬_;rw[v9 h0];exact h0
  have g0:(ah p s !=0)=true:=by simpa using h0
  clear h0;clear F y;obtain⟨zl,bt,bu,b0,zc1,b5,zc2,aa,zc3,b6,zc4,bn,zc5,b8,bq⟩:=z7 E;go_wp2_with fail;exact g9 results23 E B (by omega) S.out (λh=>fa.out (S.out.trans h)) rfl rfl rfl
 have H0:=hid h0;have J:Hid (au p s):=ew h0;rw[h0];clear h0;cases h1:inB k 0 ((s.ms.n:Int)-1)
 .have S:Hid (fp p s k n=4):=Ec H0.out h1;clear F y;obtain⟨zl,bt,bu,b0,zc1,b5,zc2,aa,zc3,b6,zc4,bn,zc5,b8,bq⟩:=z7 E;go_wp2_with(go_at_call 47;refine ag (dm _ _ _ ak) ?_);exact g9 results23 E B (by omega) S.out (by decide) rfl rfl rfl
 obtain⟨i,rfl⟩:∃i:Nat,k=i:=⟨k.toNat,by have:=aq h1;omega⟩;have hi:i<s.ms.n:=by have:=aq h1;omega
 have ad:=qs (J.out.fm.move i hi);obtain⟨f,b,g,N,hm⟩:∃(f b g:Nat) (N:Int),s.ms.z i=⟨g,f,b,N⟩:=⟨(s.ms.z i).l.toNat,(s.ms.z i).b.toNat,(s.ms.z i).o.toNat,(s.ms.z i).n,by rw[Int.toNat_of_nonneg ad.1.1,Int.toNat_of_nonneg ad.2.1.1,Int.toNat_of_nonneg ad.2.2.1.1]⟩;have HM:=hid hm;rw[hm] at ad;dsimp only at ad;obtain⟨u1,u2,u3,u4,u5,u6⟩:=ad;have L:g<p.ns:=by omega
 have ac:f<p.nb:=by omega
 have ar:b<p.nb:=by omega
 have c9:¬f=b:=by omega
 have H1:=hid h1;obtain⟨bm,om,de,fe,y0,y1,y2,y3⟩:=y.ms.hds i hi;rw[hm] at y0 y1 y2 y3;dsimp only at y0 y1 y2 y3;have fu:=hid de;rw[de] at c3;obtain⟨W2,dx,cj,K2⟩:∃W,w1.alloc (.cells #[.int .i64 (g:Int),.int .i64 (f:Int),.int .i64 (b:Int),.int .i64 N] 77)=W/\Below w1.heap.size w1 W/\Blk W w1.heap.size 77 4 (λj=>(#[.int .i64 (g:Int),.int .i64 (f:Int),.int .i64 (b:Int),.int .i64 N]:Array Value).getD j default):=⟨_,rfl,brf.alloc nlr _,Blk.mk' rfl rfl⟩;have d5:Hid (w1.alloc (.cells #[.int .i64 (g:Int),.int .i64 (f:Int),.int .i64 (b:Int),.int .i64 N] 77)=W2):=dx;have b7:=hB.trans (cj.mono hB.size);have u:=hid K2;have q0:(0:Int)<=(i:Int):=by omega
 have q1:(i:Int)<(s.ms.n:Int):=by omega
 have A1:W0.heap.size<=w1.heap.size:=hB.size;clear F y B E de dx K2 hm;go_wp2_with(go_at_call 47;refine ag (dm _ _ _ ak) ?_);rw[d5.out];refine ag (cn _ _ _ _) ?_;clear l1 d0 d1 l2 c0 c1 c2 c3 c4 c5 c6 fe y0 y1 y2 y3 d5 cj hB h1
 generalize w1.heap.size=Q at *
 obtain⟨⟨⟨l1,d0,d1⟩,l2,c0,c1,c2,c3,c4,c5,c6⟩,F,y,B,E⟩:=HC.out W2 b7;rw[fu.out] at c3;cases h2:inB n 0 N
 .have S:Hid (fp p s i n=3):=C9 H0.out H1.out (by rw[Int.toNat_natCast,HM.out];exact h2);clear F y;obtain⟨zl,bt,bu,b0,zc1,b5,zc2,aa,zc3,b6,zc4,bn,zc5,b8,bq⟩:=z7 E;go_wp2_with fail;exact g9 results23 E B (by omega) S.out (by decide) rfl rfl rfl
 have nn:=aq h2;have H2:Hid (inB n 0 (s.ms.z (i:Int).toNat).n=true):=by show inB n 0 (s.ms.z (i:Int).toNat).n=true;rw[Int.toNat_natCast,HM.out];exact h2
 have bc:b<s.on.n:=by rw[J.out.fm.sh.n];exact ar
 have rn:=J.out.fm.sh.len b bc;have dd:Hid ((s.on.r (s.ms.z (i:Int).toNat).b.toNat).z (s.ms.z (i:Int).toNat).o.toNat=(s.on.r b).z g):=by show _=_;rw[Int.toNat_natCast,HM.out];simp only[Int.toNat_natCast]
 obtain⟨bo,oo,dz,f3,z0,aj⟩:=y.on.rows b bc;obtain⟨br,gx,d3,fj,z1⟩:=aj.ints g (by omega);have v1:=aj.le;have v2:=aj.cap;have v3:=y.on.le;have v4:=y.on.cap;unfold maxLen at v2 v4;have zb:=J.out.fm.sh.num b bc g L;have m0:W2.cell? ⟨Q,0,none⟩=some (.int .i64 g):=u.out.k 0;have m2:W2.cell? ⟨Q,2,none⟩=some (.int .i64 b):=u.out.k 2;have ml:=u.out.lt;have q2:(0:Int)<=(b:Int):=by omega
 have q3:(b:Int)<(s.on.n:Int):=by omega
 have q4:(0:Int)<=(g:Int):=by omega
 have q5:(g:Int)<((s.on.r b).n:Int):=by omega
 rw[dz] at c0;rw[d3] at z0;have ff:=Qqq c0;have e7:=Qqq z0;have f7:=Qqq z1;have bb:=Qqq m0;have f9:=Qqq m2
 generalize hZB:(s.on.r b).z g=ZB at *
 clear dz d3 aj c1 c2 c3 c4 c5 c6 d0 d1 m0 m2 z0 z1 c0;go_wp2_with fail;refine Qxq (by kernel_rfl) (by kernel_rfl) ?_
 repeat(go_big_quiet_step(fail))
 refine Qqz ?_;intro K dt;have bl:=af dt;have u:=hid (u.out.below bl);have bv:=b7.trans (bl.mono b7.size);clear ff e7 f7 bb f9 dt f3 fj ml F y B E l1 l2 bl b7 v1 v2 v3 v4;obtain⟨⟨⟨l1,d0,d1⟩,l2,c0,c1,c2,c3,c4,c5,c6⟩,F,y,B,E⟩:=HC.out K bv;by_cases h3:200<ZB+n
 .have S:Hid (fp p s i n=2):=Ed H0.out H1.out H2.out (by rw[dd.out];exact h3);have ec:200-ZB<n:=by omega
  clear F y;obtain⟨zl,bt,bu,b0,zc1,b5,zc2,aa,zc3,b6,zc4,bn,zc5,b8,bq⟩:=z7 E;go_wp2_with fail;exact g9 results23 E B (by omega) S.out (by decide) rfl rfl rfl
 have S:Hid (fp p s i n=0):=Ov H0.out H1.out H2.out (by rw[dd.out];exact h3);have HI:Hid (pa p s i f b g N n):=⟨J.out,hi,HM.out,ac,ar,L,c9,nn.1,nn.2,u5,u6,by rw[hZB];omega⟩;have ec:¬200-ZB<n:=by omega
 have d6:Hid (Calls prog 51 #[s.val] K λe V=>∃s':St,e = .returned s'.val/\ae s' s/\ai K.heap.size V s'/\Below K.heap.size K V):=nf p s K y J.out.fm;have gy:=hid B;clear F y B E h3 dd;go_wp2_with fail;refine Calls.mono d6.out ?_;rintro e w4 ⟨t,rfl,A,df,b9⟩;clear d6 l1 d0 d1 l2 c0 c1 c2 c3 c4 c5 c6 h2 ec;have bp:=hid A;have eb:i<t.ms.n:=by rw[A.ms.1];exact hi
 have ci:f<t.on.n:=by rw[A.on.1,J.out.fm.sh.n];exact ac
 have cu:b<t.on.n:=by rw[A.on.1,J.out.fm.sh.n];exact ar
 have cl:g<(t.on.r f).n:=by rw[(A.on.2 f ci).1,J.out.fm.sh.len f (by rw[J.out.fm.sh.n];exact ac)];exact L
 have cp:g<(t.on.r b).n:=by rw[(A.on.2 b cu).1,J.out.fm.sh.len b bc];exact L
 have vf:0<=(t.on.r f).z g/\(t.on.r f).z g<=200:=by rw[A.num J.out.fm ac L];exact J.out.fm.sh.num f (by rw[J.out.fm.sh.n];exact ac) g L
 have vb:0<=(t.on.r b).z g/\(t.on.r b).z g<=200:=by rw[A.num J.out.fm ar L,hZB];exact zb
 obtain⟨W5,d4,be,K5⟩:=ab7 w4 t;have cr:=hid d4;have an:=b9.trans (be.mono b9.size);have A2:W0.heap.size<=K.heap.size:=bv.size;have A3:K.heap.size<=w4.heap.size:=b9.size;have ab:Hid (dg K.heap.size w4.heap.size W0 t W5):=⟨ai.below df be,K5,bv.trans (an.mono bv.size),by have:=an.size;omega⟩;have dk:Q<K.heap.size:=u.out.lt;have u:=hid (u.out.below an);clear d4 df K5 b9 be an A zb;obtain⟨m1,p0,p1,p2,p3,p4,p5,p6⟩:=Boxed.of ab.out.box;have q6:(i:Int)+1<=9223372036854775807:=by omega
 rw[<-cr.out] at m1 p0 p1 p2 p3 p4 p5 p6;simp only[St.val];go_wp2_with fail;rw[cr.out];clear m1 p0 p1 p2 p3 p4 p5 p6 cr;refine Calls.mono (Zc K.heap.size t i W5 ab.out.le ab.out.own eb) ?_;rintro e w6 ⟨rfl,bx,cm,cv⟩
 generalize w4.heap.size=U at *
 have M:=cv _ _ _ _ (by decide) ab.out.box;have ao:Hid (dg K.heap.size U W0 (withMoves t (Bu t.ms i)) (w6.setCell ⟨U,3,none⟩ (.slice t.ms.a (t.ms.n-1) t.ms.c))):=ab.out.moves A2 A3 (m:=Bu t.ms i) bx cm cv;have u:Hid (Blk (w6.setCell ⟨U,3,none⟩ (.slice t.ms.a (t.ms.n-1) t.ms.c)) Q 77 4 (λj=>(#[.int .i64 (g:Int),.int .i64 (f:Int),.int .i64 (b:Int),.int .i64 N]:Array Value).getD j default)):=(u.out.same (cm.block Q dk)).other (a:=⟨U,3,none⟩) (show Q≠U by omega) _;have zl:=M.lt;have aa:=M.frozen 3;have zc3:=M.k 3;clear bx cm cv M ab;go_wp2_with fail;clear zl aa zc3
 generalize w6.setCell ⟨U,3,none⟩ (.slice t.ms.a (t.ms.n-1) t.ms.c)=W7 at *
 generalize hx1:withMoves t (Bu t.ms i)=D at *
 have bs:f<D.on.n:=by rw[<-hx1];exact ci
 have d9:b<D.on.n:=by rw[<-hx1];exact cu
 have bk:g<(D.on.r f).n:=by rw[<-hx1];exact cl
 have cd:g<(D.on.r b).n:=by rw[<-hx1];exact cp
 have wf:0<=(D.on.r f).z g/\(D.on.r f).z g<=200:=by rw[<-hx1];exact vf
 have wb:0<=(D.on.r b).z g/\(D.on.r b).z g<=200:=by rw[<-hx1];exact vb
 have d2:=hid hx1;clear hx1 vf vb;obtain⟨g0,G,a1,a2,a3,a4,a5,a6,a7,a8,a9,c7,ct,az⟩:=ao.out.own.onCell bs bk;have u0:W7.cell? ⟨U,0,none⟩=some (.slice D.on.a D.on.n D.on.c):=ao.out.box.k 0;have di:=ao.out.box.lt;rw[a1] at u0;unfold maxLen at a8 az;have m0:W7.cell? ⟨Q,0,none⟩=some (.int .i64 g):=u.out.k 0;have m1:W7.cell? ⟨Q,1,none⟩=some (.int .i64 f):=u.out.k 1;have ml:=u.out.lt;have r0:(0:Int)<=(f:Int):=by omega
 have r1:(f:Int)<(D.on.n:Int):=by omega
 have r2:(0:Int)<=(g:Int):=by omega
 have r3:(g:Int)<((D.on.r f).n:Int):=by omega
 have cs:=Qqq u0;have da:=Qqq a3;have cf:=Qqq a9;have bb:=Qqq m0;have ck:=Qqq m1;clear u0 a1 a3 a9 m0 m1;refine i9 [(true,[0,1,2,3,4,5,6,7,8,9,10,11,12],some 13)] ?_;refine⟨λV=>∃p:Regrown,V=grow (redrawn W7 p.d) p.os,Qqx (brf.drew),λh=>(by cases h),?_⟩;simp only[dw,Qyq,Xqq,Qyx,Qyz,Xqz,Xqx]
 repeat(go_big_quiet_step(fail))
 refine Qqz ?_;clear cs da cf bb ck di ml a2 a6 c7;have P:Below W7.heap.size W7 W7.drew:=brf.drew
 generalize W7.drew=wj at *
 have T:=hid (ao.out.below P);have ax:=hid (u.out.below P);have Y:=(T.out.own.rowBlk bs a4).2;have b1:=Y.lt;have b2:=Y.frozen g;have b3:=Y.cell bk;have ay:Hid (dg K.heap.size U W0 (setOn D f g ((D.on.r f).z g-n)) (wj.setCell ⟨G,g,none⟩ (.int .i64 ((D.on.r f).z g-n)))):=T.out.setOn A2 bs a4 g _;have u:Hid (Blk (wj.setCell ⟨G,g,none⟩ (.int .i64 ((D.on.r f).z g-n))) Q 77 4 (λj=>(#[.int .i64 (g:Int),.int .i64 (f:Int),.int .i64 (b:Int),.int .i64 N]:Array Value).getD j default)):=ax.out.other (a:=⟨G,g,none⟩) (Blk.ne2 ax.out Y (by decide)) _;clear P Y ao T ax a4 a5 a7 a8 ct az;refine ki 13 rfl ?_;go_wp2_with fail;refine NoPanic.normal ?_;clear b1 b2 b3 r0 r1 r2 r3
 generalize wj.setCell ⟨G,g,none⟩ (.int .i64 ((D.on.r f).z g-n))=W8 at *
 go_wp2_with fail
 generalize hx2:setOn D f g ((D.on.r f).z g-n)=H at *
 have d7:=hid hx2;have b4:b<H.on.n:=by rw[<-hx2];exact d9
 have bi:g<(H.on.r b).n:=by rw[<-hx2,rd];exact cd
 have cq:Hid ((H.on.r b).z g=(D.on.r b).z g):=by show(H.on.r b).z g=_;rw[<-hx2,Bk,if_neg (λe=>c9 e.1.symm)]
 have fc:0<=(H.on.r b).z g/\(H.on.r b).z g<=200:=by rw[cq.out];exact wb
 clear hx2;obtain⟨g0,G,a1,a2,a3,a4,a5,a6,a7,a8,a9,c7,ct,az⟩:=ay.out.own.onCell b4 bi;have u0:W8.cell? ⟨U,0,none⟩=some (.slice H.on.a H.on.n H.on.c):=ay.out.box.k 0;have di:=ay.out.box.lt;rw[a1] at u0;unfold maxLen at a8 az;have m0:W8.cell? ⟨Q,0,none⟩=some (.int .i64 g):=u.out.k 0;have m1:W8.cell? ⟨Q,2,none⟩=some (.int .i64 b):=u.out.k 2;have ml:=u.out.lt;have r0:(0:Int)<=(b:Int):=by omega
 have r1:(b:Int)<(H.on.n:Int):=by omega
 have r2:(0:Int)<=(g:Int):=by omega
 have r3:(g:Int)<((H.on.r b).n:Int):=by omega
 have cs:=Qqq u0;have da:=Qqq a3;have cf:=Qqq a9;have bb:=Qqq m0;have ck:=Qqq m1;clear u0 a1 a3 a9 m0 m1;refine i9 [(true,[0,1,2,3,4,5,6,7,8,9,10,11,12],some 13)] ?_;refine⟨λV=>∃p:Regrown,V=grow (redrawn W8 p.d) p.os,Qqx (brf.drew),λh=>(by cases h),?_⟩;simp only[dw,Qyq,Xqq,Qyx,Qyz,Xqz,Xqx]
 repeat(go_big_quiet_step(fail))
 refine Qqz ?_;clear cs da cf bb ck di ml a2 a6 c7;have P:Below W8.heap.size W8 W8.drew:=brf.drew
 generalize W8.drew=wj at *
 have T:=hid (ay.out.below P);have ax:=hid (u.out.below P);have Y:=(T.out.own.rowBlk b4 a4).2;have b1:=Y.lt;have b2:=Y.frozen g;have b3:=Y.cell bi;have ch:Hid (dg K.heap.size U W0 (setOn H b g ((H.on.r b).z g+n)) (wj.setCell ⟨G,g,none⟩ (.int .i64 ((H.on.r b).z g+n)))):=T.out.setOn A2 b4 a4 g _;clear P Y ay T ax a4 a5 a7 a8 ct az;refine ki 13 rfl ?_;go_wp2_with fail;refine NoPanic.normal ?_;clear b1 b2 b3 r0 r1 r2 r3
 generalize wj.setCell ⟨G,g,none⟩ (.int .i64 ((H.on.r b).z g+n))=W9 at *
 generalize hx3:setOn H b g ((H.on.r b).z g+n)=x3 at *
 have f4:Hid (ae x3 (je s i n)):=by
  have h:=Ba HI.out bp.out (q:=Bu t.ms i) (by show t.ms.n-1=_;rw[bp.out.ms.1]) (λj hj=>by
   have gw:j<t.ms.n-1:=hj;show(if j<i then t.ms.z j else t.ms.z (j+1))=if j<i then s.ms.z j else s.ms.z (j+1);rw[bp.out.ms.2 j (by omega),bp.out.ms.2 (j+1) (by omega)])
  have e:tx t (Bu t.ms i) f b g n=x3:=by
   unfold tx;rw[<-hx3,cq.out,<-d7.out,<-d2.out]
   rfl
  rw[e] at h;exact h
 clear hx3 cq;obtain⟨m1,p0,p1,p2,p3,p4,p5,p6⟩:=Boxed.of ch.out.box;obtain⟨-,-,-,B,E⟩:=HC.out W9 ch.out.bel;have HZ:=qa2 B E;obtain⟨zl,bt,bu,b0,zc1,b5,zc2,aa,zc3,b6,zc4,bn,zc5,b8,bq⟩:=z7 E;have gd:=(HC.out _ brf).2.2.2.1.size;clear B E eb ci cu cl cp bs d9 bk cd wf wb b4 bi fc u1 u2 u3 u4 u5 u6 q0 q1 q2 q3 q4 q5 q6 rn hZB hi bc nn L ac ar c9 dk d2 d7 dy bj ak ea du leb bw les bz capb caps;go_wp2_with fail;have KZ:=s7b HZ.out.2 x3;have d8:=s7w (b:=w.heap.size+2) HZ.out.1 (by omega) x3;have db:=s7o ch.out.own HZ.out.2 x3;unfold set7 at KZ d8 db;obtain⟨fg,f5,f2,fw,f1,f6,ft⟩:=co KZ;refine Xzq (v := .tuple #[x3.val,.int .i64 0]) (by simp[results,results23,go_sem,St.val,fg,f5,f2,fw,f1,f6,ft]) rfl ?_;exact⟨x3,by rw[S.out];rfl,db.at,⟨λ_=>f4.out,λh=>absurd S.out h⟩,λ_=>db.mono (by omega),d8⟩
end Go.Proofs.YtbcacebifpagpafGreat
namespace Go.Proofs.YtbcacebifpagpafGreat
variable{b n g A l o i m q j R M N:Nat}{w a c d:World}{s x y:St}{r W J K:Int}{e t:TypeId}{p:Pl}{z D:Nat->Hd}{Q:Exit->Act->World->Prop}{f f':Nat->Value}{v c1 c3 c2:Value}{H O:Hs}{U:List Value}{P:Program}{V X:Int->Int->Int}{Y:Array Oper}{Z E:Hd->Bool}{h:Hd}{S:World->Prop}{a1:Act}{z' zs:Nat->Int}{L:Array Bool}
open _root_.Go.Proofs.Tryz
open Go.RowKit Go.MapKept Go.ChangeMaps
def mv(o l:Nat):Value := .agg #[.int .i64 (o:Int),.int .i64 (l:Int)]
theorem Rd{a:Nat}(h:mv o l=mv a b):o=a/\l=b:=by
 unfold mv at h;simp only[Value.agg.injEq] at h;have d:(#[.int .i64 (o:Int),.int .i64 (l:Int)]:Array Value)[0]?=(#[.int .i64 (a:Int),.int .i64 (b:Int)]:Array Value)[0]?:=by rw[h]
 have c:(#[.int .i64 (o:Int),.int .i64 (l:Int)]:Array Value)[1]?=(#[.int .i64 (a:Int),.int .i64 (b:Int)]:Array Value)[1]?:=by rw[h]
 simp at d c;omega
theorem A8:WideMaps.KeyLaw prog 161 :=
 deep_law_gate (show laidOutB prog=true by kernel_rfl) (of_decide_eq_true (by kernel_rfl)) (of_decide_eq_true (by kernel_rfl)) (by kernel_rfl) (by kernel_rfl)
theorem Zd:((List.range 4).all λo=>(List.range 3).all λl=>(keyOf prog 161 (mv o l)).isSome)=true:=by kernel_rfl
theorem Mz(a:o<4)(b:l<3):∃k,keyOf prog 161 (mv o l)=some k :=
 Option.isSome_iff_exists.1 (List.all_eq_true.1 (List.all_eq_true.1 Zd o (List.mem_range.2 a)) l (List.mem_range.2 b))
theorem Dx:prog.underlying 116=some (.map 161 3):=by kernel_rfl
def km(w:World)(r:Nat)(q:Int->Int->Int):Prop:=∃es clock,w.heap[r]?=some (.map es clock)/\Stamped es clock/\(∀x,x∈es.toList->∃o l:Nat,o<4/\l<3/\x.key=mv o l/\x.val = .int .i64 (q o l))/\∀o l:Nat,o<4->l<3->(∀x,x∈es.toList->x.key≠mv o l)->q o l=0
theorem km.lt{q:Int->Int->Int}(h:km w n q):n<w.heap.size:=by
 obtain⟨b,c,a,-⟩:=h;exact(Qkq a).1
theorem km.same{q:Int->Int->Int}(h:km w n q)(e:a.heap[n]?=w.heap[n]?):km a n q:=by
 obtain⟨f,c,d,b⟩:=h;exact⟨f,c,e.trans d,b⟩
theorem km.below{q:Int->Int->Int}(h:km w n q)(b:Below w.heap.size w a):km a n q:=h.same (b.block n h.lt)
theorem km.set{q:Int->Int->Int}(h:km w b q)(a:b≠g)(u:Value):km (w.setCell ⟨g,j,none⟩ u) b q:=h.same (Below.heap_setCell w ⟨g,j,none⟩ u b a)
theorem km.new(w:World):km (w.alloc (.map #[] 0)) w.heap.size (λ_ _=>0):=by
 refine⟨#[],0,(heap_alloc w _).1,stamped_empty 0,λx hx=>by simp at hx,λ_ _ _ _ _=>rfl⟩
theorem km.congr{q d:Int->Int->Int}(h:km w A q)(e:∀o l:Nat,o<4->l<3->d o l=q o l):km w A d:=by
 obtain⟨m,c,k,p,i,g⟩:=h;refine⟨m,c,k,p,λx hx => ?_,λo l b a n=>by rw[e o l b a];exact g o l b a n⟩;obtain⟨o,l,b,a,f,j⟩:=i x hx;exact⟨o,l,b,a,f,by rw[e o l b a];exact j⟩
theorem km.keys{a:Array MapEntry}{q:Int->Int->Int}(d:∀x,x∈a.toList->∃o l:Nat,o<4/\l<3/\x.key=mv o l/\x.val = .int .i64 (q o l)):∀e∈a.toList,∃l,keyOf prog 161 e.key=some l:=λe f=>by
 obtain⟨o,l,g,c,b,-⟩:=d e f;rw[b];exact Mz g c
theorem Px{q:Int->Int->Int}(h:km w A q)(n:o<4)(m:l<3):(Instr.lookup 116 (.map (some A)) (mv o l) false).run prog w = .ok (.int .i64 (q o l)) w:=by
 obtain⟨u,c,i,z,g,p⟩:=h;obtain⟨k,b⟩:=Mz n m;rcases A8.find w b u.toList (km.keys g) with⟨d,f⟩|⟨j,e,d,f,s⟩
 .have v:=p o l n m f;simp[Instr.lookup,run_underlying Dx,MapKept.run_getObj_map i,A8.check w _ b,d,Result.andThen,v]
 obtain⟨y,x,-,-,a,t⟩:=g e (List.mem_of_getElem? f);rw[s] at a;obtain⟨rfl,rfl⟩:=Rd a;simp[Instr.lookup,run_underlying Dx,MapKept.run_getObj_map i,A8.check w _ b,d,Result.andThen,t]
def qx(q:Int->Int->Int)(o l:Nat)(v:Int)(a b:Int):Int:=if a=o/\b=l then v else q a b
structure qp(r:Nat)(w w':World):Prop where
 os:w'.os=w.os
 tape:w'.tape=w.tape
 output:w'.output=w.output
 size:w'.heap.size=w.heap.size
 block:∀k,k≠r->w'.heap[k]?=w.heap[k]?
theorem zr{x:Obj}(o:Obj)(h:w.heap[b]?=some x):qp b w (setBlock w b o):=⟨rfl,rfl,rfl,by simp[setBlock],(heap_set h).2⟩
theorem qp.trans{b:World}(h:qp n a b)(k:qp n b c):qp n a c:=⟨k.os.trans h.os,k.tape.trans h.tape,k.output.trans h.output,k.size.trans h.size,λq d=>(k.block q d).trans (h.block q d)⟩
theorem qp.below{b:World}(k:qp n b c)(h:Below A a b)(e:A<=n):Below A a c:=⟨k.os.trans h.os,k.tape.trans h.tape,k.output.trans h.output,by rw[k.size];exact h.size,λq d=>(k.block q (by omega)).trans (h.block q d)⟩
theorem Vt{q:Int->Int->Int}(h:km w R q)(G:o<4)(K:l<3):
  ∃(v0:Value) (st:Nat) (M:World),(Instr.mapEntry 116 (.map (some R)) (mv o l)).run prog w = .ok (.tuple #[v0,goInt st]) M/\qp R w M/\km M R q /\
   ∀v:Int,∃w2,(Instr.entryStore 116 (.map (some R)) (goInt st) (.int .i64 v)).run prog M = .ok () w2/\km w2 R (qx q o l v)/\qp R w w2:=by
 obtain⟨d,c,m,h2,B,F⟩:=h;obtain⟨k,L⟩:=Mz G K;obtain⟨s1,D,y⟩:=h2;have ai:=(Qkq m).1;rcases A8.find w L d.toList (km.keys B) with⟨W,g⟩|⟨j,e,W,g,u⟩
 .refine⟨.int .i64 0,c,setBlock w R (.map (d.push ⟨mv o l,.int .i64 0,c⟩) (c+1)),?_,zr _ m,⟨_,_,(heap_set m).1,stamped_push ⟨s1,D,y⟩ g,λx hx => ?_,λa b t s A=>F a b t s λx hx=>A x (by rw[Array.toList_push];simp[hx])⟩,λv => ?_⟩
  .simp[Instr.mapEntry,run_underlying Dx,MapKept.run_getObj_map m,A8.check w false L,W,MapKept.run_setObj_map _ m,Result.andThen,setBlock]
  .rw[Array.toList_push,List.mem_append,List.mem_singleton] at hx;rcases hx with hx|rfl
   .exact B x hx
   exact⟨o,l,G,K,rfl,by rw[F o l G K g]⟩
  have f:(setBlock w R (.map (d.push ⟨mv o l,.int .i64 0,c⟩) (c+1))).heap[R]?=some (.map (d.push ⟨mv o l,.int .i64 0,c⟩) (c+1)):=(heap_set m).1;have ab:Stamped (d.push ⟨mv o l,.int .i64 0,c⟩) (c+1):=stamped_push ⟨s1,D,y⟩ g;have z:(d.push ⟨mv o l,.int .i64 0,c⟩).findIdx? (λe=>((e.born:Nat):Int)==((c:Nat):Int))=some d.size:=by
   rw[WideElems.findIdx_arr];exact WideElems.findIdx_born (l:=(d.push ⟨mv o l,.int .i64 0,c⟩).toList) (j:=d.size) (e0:=⟨mv o l,.int .i64 0,c⟩) ab.2.1 (by simp)
  have X:(d.push ⟨mv o l,.int .i64 0,c⟩).modify d.size (λe=>{ e with val := .int .i64 v })=d.push ⟨mv o l,.int .i64 v,c⟩:=by
   apply Array.ext'
   rw[Array.toList_modify,Array.toList_push,Array.toList_push,<-Array.length_toList,WideElems.modify_last]
  refine⟨setBlock (setBlock w R (.map (d.push ⟨mv o l,.int .i64 0,c⟩) (c+1))) R (.map (d.push ⟨mv o l,.int .i64 v,c⟩) (c+1)),?_,⟨_,_,(heap_set f).1,stamped_push ⟨s1,D,y⟩ g,λx hx => ?_,λa b t s A => ?_⟩,(zr _ m).trans (zr _ f)⟩
  .generalize setBlock w R (.map (d.push ⟨mv o l,.int .i64 0,c⟩) (c+1))=W1 at f ⊢
   simp[Instr.entryStore,MapKept.run_getObj_map f,asInt,asIntOf,goInt,z,X,MapKept.run_setObj_map _ f,Result.andThen,setBlock]
  .rw[Array.toList_push,List.mem_append,List.mem_singleton] at hx;rcases hx with hx|rfl
   .obtain⟨a,b,t,s,H,U⟩:=B x hx;refine⟨a,b,t,s,H,?_⟩;have:¬((a:Int)=o/\(b:Int)=l):=λe=>g x hx (by rw[H,show a=o by omega,show b=l by omega]);rw[U];unfold qx;rw[if_neg this]
   refine⟨o,l,G,K,rfl,?_⟩;unfold qx;rw[if_pos ⟨rfl,rfl⟩]
  have n:¬((a:Int)=o/\(b:Int)=l):=λe=>A ⟨mv o l,.int .i64 v,c⟩ (by rw[Array.toList_push];simp) (by show mv o l=mv a b;rw[show a=o by omega,show b=l by omega]);unfold qx;rw[if_neg n];exact F a b t s λx hx=>A x (by rw[Array.toList_push];simp[hx])
 have hj:d[j]?=some e:=by simpa using g
 have P:d.modify j (λe=>{ e with key:=mv o l })=d:=by
  apply Array.ext'
  rw[Array.toList_modify,ChangeMaps.modify_eq_set _ _ _ _ g];have:({ e with key:=mv o l }:MapEntry)=e:=by rw[<-u]
  rw[this];exact WideElems.set_self _ _ _ g
 have f:(setBlock w R (.map d c)).heap[R]?=some (.map d c):=(heap_set m).1;refine⟨e.val,e.born,setBlock w R (.map d c),?_,zr _ m,⟨d,c,f,⟨s1,D,y⟩,B,F⟩,λv => ?_⟩
 .simp[Instr.mapEntry,run_underlying Dx,MapKept.run_getObj_map m,A8.check w false L,W,hj,u,A8.stays w L,P,MapKept.run_setObj_map _ m,Result.andThen,setBlock]
 have z:d.findIdx? (λx=>((x.born:Nat):Int)==((e.born:Nat):Int))=some j:=by
  rw[WideElems.findIdx_arr];exact WideElems.findIdx_born D g
 have V:(d.modify j (λe=>{ e with val := .int .i64 v })).toList=d.toList.set j { e with val := .int .i64 v }:=by
  rw[Array.toList_modify,ChangeMaps.modify_eq_set _ _ _ _ g]
 have ac:∀x,x∈(d.modify j (λe=>{ e with val := .int .i64 v })).toList->x={ e with val := .int .i64 v }\/x∈d.toList/\x.key≠mv o l:=λx hx=>by
  rw[V] at hx;obtain⟨i,hi,hx⟩:=List.mem_iff_getElem.1 hx;rw[List.getElem_set] at hx;by_cases p:j=i
  .rw[if_pos p] at hx;exact Or.inl hx.symm
  rw[if_neg p] at hx;have J:i<d.toList.length:=by rw[List.length_set] at hi;exact hi
  have T:j<d.toList.length:=(List.getElem?_eq_some_iff.1 g).1;refine Or.inr ⟨by rw[<-hx];exact List.getElem_mem J,λE => ?_⟩;have ej:d.toList[j]=e:=(List.getElem?_eq_some_iff.1 g).2;rcases Nat.lt_or_gt_of_ne p with Y|Y
  .exact(List.pairwise_iff_getElem.1 (List.pairwise_map.1 y)) j i T J Y (by rw[ej,u,hx,E])
  exact(List.pairwise_iff_getElem.1 (List.pairwise_map.1 y)) i j J T Y (by rw[ej,u,hx,E])
 obtain⟨o',l',-,-,H,aj⟩:=B e (List.mem_of_getElem? g);have ad:({ e with val := .int .i64 v }:MapEntry)∈(d.modify j (λe=>{ e with val := .int .i64 v })).toList:=by
  rw[V];exact List.mem_iff_getElem.2 ⟨j,by rw[List.length_set];exact(List.getElem?_eq_some_iff.1 g).1,by simp⟩
 refine⟨setBlock (setBlock w R (.map d c)) R (.map (d.modify j (λe=>{ e with val := .int .i64 v })) c),?_,⟨_,_,(heap_set f).1,stamped_modify ⟨s1,D,y⟩ j _ (λ_ _=>rfl) (λ_ _ _=>rfl),λx hx => ?_,λa b t s A => ?_⟩,(zr _ m).trans (zr _ f)⟩
 .generalize setBlock w R (.map d c)=W1 at f ⊢
  simp[Instr.entryStore,MapKept.run_getObj_map f,asInt,asIntOf,goInt,z,MapKept.run_setObj_map _ f,Result.andThen,setBlock]
 .rcases ac x hx with rfl|⟨hx,n⟩
  .refine⟨o,l,G,K,u,?_⟩;unfold qx;rw[if_pos ⟨rfl,rfl⟩]
  obtain⟨a,b,t,s,Q,U⟩:=B x hx;refine⟨a,b,t,s,Q,?_⟩;have:¬((a:Int)=o/\(b:Int)=l):=λe=>n (by rw[Q,show a=o by omega,show b=l by omega]);rw[U];unfold qx;rw[if_neg this]
 have n:¬((a:Int)=o/\(b:Int)=l):=λe'=>A _ ad (by show e.key=_;rw[u,show a=o by omega,show b=l by omega]);unfold qx;rw[if_neg n];refine F a b t s λx hx E => ?_;obtain⟨i,hi,S⟩:=List.mem_iff_getElem.1 hx;by_cases p:j=i
 .subst p;have:x=e:=by rw[<-S];exact(List.getElem?_eq_some_iff.1 g).2
  rw[this,u] at E;obtain⟨rfl,rfl⟩:=Rd E;exact n ⟨rfl,rfl⟩
 exact A x (by
  rw[V];exact List.mem_iff_getElem.2 ⟨i,by rw[List.length_set];exact hi,by rw[List.getElem_set_ne p];exact S⟩) E
end Go.Proofs.YtbcacebifpagpafGreat
namespace Go.Proofs.YtbcacebifpagpafGreat
variable{b n g A l o i m q j R M N:Nat}{w a c d:World}{s x y:St}{r W J K:Int}{e t:TypeId}{p:Pl}{z D:Nat->Hd}{Q:Exit->Act->World->Prop}{f f':Nat->Value}{v c1 c3 c2:Value}{H O:Hs}{U:List Value}{P:Program}{V X:Int->Int->Int}{Y:Array Oper}{Z E:Hd->Bool}{h:Hd}{S:World->Prop}{a1:Act}{z' zs:Nat->Int}{L:Array Bool}
open _root_.Go.Proofs.Tryz
open Go.RowKit Go.Shelf Go.Sort
def nu(g:Nat)(w w':World):Prop:=im g w w'/\∀(cur:Array Value) (e:TypeId),w.heap[g]?=some (.cells cur e (0,0))->∃cur',w'.heap[g]?=some (.cells cur' e (0,0))/\cur'.size=cur.size
theorem nu.refl(g:Nat)(w:World):nu g w w:=⟨im.refl g w,λcur e h=>⟨cur,h,rfl⟩⟩
theorem nu.below{b:World}(h:nu g w a)(c:Below a.heap.size a b):nu g w b:=⟨h.1.below c,λcur e hc=>by
 obtain⟨i,d,f⟩:=h.2 cur e hc;exact⟨i,(c.block g (Qkq d).1).trans d,f⟩⟩
theorem nu.cells(b:List Value)(o:Nat)(a:World)(h:nu g w a):nu g w (a.setCells g o b):=⟨im.cells b o a h.1,λcur e hc=>by
 obtain⟨j,i,d⟩:=h.2 cur e hc;obtain⟨c2,f,c⟩:=Fv (m:=cur.size) b o a ⟨j,i,d⟩;exact⟨c2,f,c⟩⟩
theorem nu.set(h:nu g w a)(j:Nat)(u:Value):nu g w (a.setCell ⟨g,j,none⟩ u):=nu.cells [u] j a h
theorem nu.set4(h:nu g w a)(i:Nat)(x:Hd):nu g w (Go.Proofs.YtbcacebifpagpafGreat.set4 a g i x):=by
 unfold Go.Proofs.YtbcacebifpagpafGreat.set4;exact(((h.set _ _).set _ _).set _ _).set _ _
theorem Zx(f:Nat)(caps:Array Value)(bad:Hd->Bool)(A:Nat)(a:Option Addr)(n c:Nat)(w:World)(K:A<=w.heap.size)(P:n<=c)(hc:c<=maxLen)(z:Nat->Hd)(F:jc w a n z)
  (M:∀args w,(callFunc f args).run prog w = .ok (.enter f args) w)
  (J:Hid (∀(x:Hd) d,Below A w d->Calls prog f (#[x.val]++caps) d λe s=>e = .returned (.bool (bad x))/\Below d.heap.size d s)) :
  Calls prog 151 #[.slice a n c,.func (.func f) #[] caps] w λe s=>((e = .returned (.int .i64 (-1))/\∀j,j<n->bad (z j)=false)\/∃k,k<n/\e = .returned (.int .i64 (k:Nat))/\bad (z k)=true/\∀j,j<k->bad (z j)=false)/\Below w.heap.size w s:=by
 unfold maxLen at hc;go_enter func151,ntmps151;go_wp2_with fail
 go_loopw [8] (λi d=>∃k:Nat,k<=n/\i = .int .i64 k/\Hid (∀j,j<k->bad (z j)=false)/\Below w.heap.size w d) (λi _=>n-(intOf i).toNat)
 case atStart=>exact⟨0,Qxz _,rfl,λj p=>absurd p (Qzq _),Below.refl _ _⟩
 obtain⟨k,L,rfl,m,l⟩:=hrel;by_cases q:k<n;rotate_left
 .go_wp2_with fail;go_ret;have t:k=n:=by omega
  subst t;exact⟨Or.inl ⟨rfl,m.out⟩,l⟩
 obtain⟨b,o,rfl,_,v,G,y,D⟩:=(F.below l) k q;clear F;have u:Hid (∀j,j<k+1->bad (z k)=false->bad (z j)=false):=λj p h=>by
  by_cases B:j=k
  .rw[B];exact h
  exact m.out j (by omega)
 go_wp2_with fail;refine(J.out (z k) wr (l.mono K)).mono ?_;rintro e d ⟨rfl,H⟩;have r:=l.trans (H.mono l.size);cases g:bad (z k)
 .have E:Hid (∀j,j<k+1->bad (z j)=false):=λj p=>u.out j p g;clear u m;go_wp2_with fail;go_roundw
  case rel=>exact⟨k+1,by omega,by go_num,E,r⟩
  case measure=>simp[intOf];omega
 go_wp2_with fail;go_ret;exact⟨Or.inr ⟨k,q,rfl,g,m.out⟩,r⟩
def I9(g:Nat)(bad:Hd->Bool)(xs:List Hd)(k:Nat)(wk:World):Prop:=∃c:Nat->Hd,Blk wk g 77 (xs.length*4) (hc c)/\(∀q,q<(iw bad xs k).length->c q=(iw bad xs k).getD q hd0)/\∀q,k<=q->q<xs.length->c q=xs.getD q hd0
theorem Xl(f:Nat)(caps:Array Value)(bad:Hd->Bool)(A g cap:Nat)(a:List Hd)(w:World)(hA:A<=g)(J:A<=w.heap.size)(hn:a.length<=cap)(U:cap<=maxLen)(hb:Blk w g 77 (a.length*4) (hc λj=>a.getD j hd0))
  (eg:∀args w,(callFunc f args).run prog w = .ok (.enter f args) w)
  (hf:Hid (∀(x:Hd) L,Below A w L->Calls prog f (#[x.val]++caps) L λe w'=>e = .returned (.bool (bad x))/\Below L.heap.size L w')) :
  Calls prog 116 #[.slice (some ⟨g,0,none⟩) a.length cap,.func (.func f) #[] caps] w λe w'=>e = .returned (.slice (some ⟨g,0,none⟩) (a.filter (λx => !bad x)).length cap)/\Blk w' g 77 ((a.filter (λx => !bad x)).length*4) (hc λj=>(a.filter (λx => !bad x)).getD j hd0)/\Below A w w'/\nu g w w':=by
 have al:=U;unfold maxLen at U;have Y:=hid hb;have hz:jc w (some ⟨g,0,none⟩) a.length (λj=>a.getD j hd0):=hb.hds;clear hb;go_enter func116,ntmps116;go_wp2_with fail;refine(Zx f caps bad A _ _ _ w J hn al _ hz eg hf).mono ?_;rintro e L ⟨h,v⟩;clear hz;have S:=v.mono J;rcases h with⟨rfl,D⟩|⟨P,a2,rfl,ab,D⟩
 .have af:a.filter (λx => !bad x)=a:=by
   have:=zt (bad:=bad) (Nat.le_refl a.length) D;rw[Ds,List.take_length] at this;exact this
  have HF:=hid af;clear af D;go_wp2_with fail;go_ret;rw[HF.out];exact⟨rfl,Y.out.below v,S,(nu.refl g w).below v⟩
 have ad:iw bad a (P+1)=a.take P:=by rw[Ah a2,zt (by omega) D,ab];simp
 have V:(iw bad a (P+1)).length=P:=by rw[ad,List.length_take];omega
 have H0:Hid (I9 g bad a (P+1) L):=⟨_,Y.out.below v,λq M=>by
  rw[V] at M;rw[ad];simp only[List.getD,List.getElem?_take,if_pos M],λq _ _=>rfl⟩
 have ae:=hid V;clear ad V ab D Y;go_wp2_with fail
 go_loopw [5,6] (λi j wk=>∃k:Nat,k<=a.length/\j = .int .i64 k/\i = .int .i64 ((iw bad a k).length:Nat)/\(iw bad a k).length<k/\Hid (I9 g bad a k wk)/\Below A w wk/\Hid (nu g w wk)) (λ_ j _=>a.length-(intOf j).toNat)
 case atStart=>exact⟨P+1,by omega,by go_num,by rw[ae.out],by rw[ae.out];omega,H0,S,(nu.refl g w).below v⟩
 clear H0 ae S v;obtain⟨k,hk,rfl,rfl,B,HD,hB,p⟩:=hrel;by_cases ag:k<a.length;rotate_left
 .have ay:k=a.length:=by omega
  subst ay;obtain⟨c,d,r,E⟩:=HD.out;rw[Ds] at B r ⊢;obtain⟨I,G⟩:∃I,(a.filter (λx => !bad x)).length=I:=⟨_,rfl⟩;have HI:=hid G;rw[G] at B r ⊢;clear G;obtain⟨N,hN⟩:∃N,a.length=N:=⟨_,rfl⟩;rw[hN] at B hn d ⊢;clear hN E ag hk HD;have bo:¬cap=I:=by omega
  have bn:∀ty,(Builtin.clear_ #[29] ty #[.slice (some ⟨g,I*4,none⟩) (N-I) (cap-I)]).run prog wr = .ok (.tuple #[]) (wr.setCells g (I*4) (List.replicate ((N-I)*4) (.int .i64 0))):=λty =>
   Js wr ty g (I*4) (N-I) (cap-I) (by omega) (λj hj=>by rw[d.cell (by omega)];rfl) (λj _=>d.frozen _)
  have ar:Hid (Blk (wr.setCells g (I*4) (List.replicate ((N-I)*4) (.int .i64 0))) g 77 (I*4) (hc λj=>(a.filter (λx => !bad x)).getD j hd0)/\Below A w (wr.setCells g (I*4) (List.replicate ((N-I)*4) (.int .i64 0)))/\nu g w (wr.setCells g (I*4) (List.replicate ((N-I)*4) (.int .i64 0)))):=
   ⟨Blk.setCells _ _ _ ((d.less (by omega)).congr λj hj=>by unfold hc;rw[r (j/4) (by omega)]) nlr,yi hA _ _ _ hB,p.out.cells _ _ _⟩
  clear d r;go_wp2_with fail;go_ret;rw[HI.out];exact⟨rfl,ar.out⟩
 obtain⟨c,d,r,E⟩:=HD.out;have s:=qa3 d r E;have HS:Hid (iw bad a (k+1)=iw bad a k++if bad (a.getD k hd0) then [] else [a.getD k hd0]):=Ah ag;obtain⟨X,hX⟩:∃X,a.getD k hd0=X:=⟨_,rfl⟩;have an:=hid hX;have ao:c k=X:=by rw[E k nlr ag,hX]
 have Q:=Ps c k;rw[ao] at Q;have z0:wr.cell? ⟨g,k*4,none⟩=some (.int .i64 X.o):=(d.cell (by omega)).trans (by rw[Q.1]);have z1:wr.cell? ⟨g,k*4+1,none⟩=some (.int .i64 X.l):=(d.cell (by omega)).trans (by rw[Q.2.1]);have z2:wr.cell? ⟨g,k*4+2,none⟩=some (.int .i64 X.b):=(d.cell (by omega)).trans (by rw[Q.2.2.1]);have z3:wr.cell? ⟨g,k*4+3,none⟩=some (.int .i64 X.n):=(d.cell (by omega)).trans (by rw[Q.2.2.2]);have zl:=d.lt;clear d r E HD hX ao Q;obtain⟨I,G⟩:∃I,(iw bad a k).length=I:=⟨_,rfl⟩;have t:=hid G;rw[G] at B ⊢;clear G;obtain⟨W,hW,K,KX⟩:∃W,wr.alloc (.cells #[.int .i64 X.o,.int .i64 X.l,.int .i64 X.b,.int .i64 X.n] 77)=W/\Below wr.heap.size wr W/\Blk W wr.heap.size 77 4 (λj=>(#[.int .i64 X.o,.int .i64 X.l,.int .i64 X.b,.int .i64 X.n]:Array Value).getD j default):=⟨_,rfl,brf.alloc nlr _,Blk.mk' rfl rfl⟩;have HW:Hid (wr.alloc (.cells #[.int .i64 X.o,.int .i64 X.l,.int .i64 X.b,.int .i64 X.n] 77)=W):=hW;have H:=hB.trans (K.mono (Qzx J hB.size));have s:Hid (Blk W g 77 (a.length*4) (hc c)/\(∀q,q<(iw bad a k).length->c q=(iw bad a k).getD q hd0)/\∀q,k<=q->q<a.length->c q=a.getD q hd0):=⟨s.out.1.below K,s.out.2⟩;have p:Hid (nu g w W):=p.out.below K;clear hW K;go_wp2_with fail;rw[HW.out];refine(hf.out X W H).mono ?_;rintro e z ⟨rfl,F⟩;have ap:=H.trans (F.mono (Qzx J H.size));have p:Hid (nu g w z):=p.out.below F;have m:=s.out.1.below F;have u:=KX.below F;have xl:=u.lt;have x0:z.cell? ⟨wr.heap.size,0,none⟩=some (.int .i64 X.o):=u.k 0;have x1:z.cell? ⟨wr.heap.size,1,none⟩=some (.int .i64 X.l):=u.k 1;have x2:z.cell? ⟨wr.heap.size,2,none⟩=some (.int .i64 X.b):=u.k 2;have x3:z.cell? ⟨wr.heap.size,3,none⟩=some (.int .i64 X.n):=u.k 3;clear z0 z1 z2 z3 zl KX u HW hB H F
 generalize wr.heap.size=BX at *
 cases am:bad X;rotate_left
 .have y:Hid (I9 g bad a (k+1) z/\(iw bad a (k+1)).length=I):=by
   have e1:iw bad a (k+1)=iw bad a k:=by rw[HS.out,an.out,am];simp
   rw[e1];exact⟨⟨c,m,by rw[e1];exact s.out.2.1,λq M aa=>s.out.2.2 q (by omega) aa⟩,t.out⟩
  clear m s HS;go_wp2_with fail;go_roundw
  case rel=>exact⟨_,_,_,_,_,_,_,_,_,_,_,_,_,_,_,_,_,_,_,_,_,_,_,⟨k+1,by omega,by go_num,by rw[y.out.2],by rw[y.out.2];omega,y.out.1,ap,p⟩,rfl⟩
  case measure=>simp[intOf];omega
 have y0:=m.cell (j:=I*4) (by omega);have y1:=m.cell (j:=I*4+1) (by omega);have y2:=m.cell (j:=I*4+2) (by omega);have y3:=m.cell (j:=I*4+3) (by omega);have f0:=m.frozen (I*4);have f1:=m.frozen (I*4+1);have f2:=m.frozen (I*4+2);have f3:=m.frozen (I*4+3);have yl:=m.lt
 generalize hc c (I*4)=V0 at y0
 generalize hc c (I*4+1)=V1 at y1
 generalize hc c (I*4+2)=V2 at y2
 generalize hc c (I*4+3)=V3 at y3
 have KB:=m.set4 I X;have y:Hid (I9 g bad a (k+1) (set4 z g I X)/\Below A w (set4 z g I X)/\(iw bad a (k+1)).length=I+1/\nu g w (set4 z g I X)):=by
  have e1:iw bad a (k+1)=iw bad a k++[X]:=by rw[HS.out,an.out,am];rfl
  have e2:(iw bad a (k+1)).length=I+1:=by rw[e1,List.length_append,t.out];rfl
  refine⟨⟨_,KB,λq M => ?_,λq M aa => ?_⟩,Mj hA ap I X,e2,p.out.set4 I X⟩
  .rw[e2] at M;show(if q=I then X else c q)=_;rw[e1];by_cases T:q=I
   .rw[if_pos T];simp only[List.getD];rw[List.getElem?_append_right (by rw[t.out];omega),t.out,T];simp
   rw[if_neg T,s.out.2.1 q (by rw[t.out];omega)];simp only[List.getD];rw[List.getElem?_append_left (by rw[t.out];omega)]
  show(if q=I then X else c q)=_;rw[if_neg (by omega),s.out.2.2 q (by omega) aa]
 clear m KB s HS;go_wp2_with fail;go_roundw
 case rel=>exact⟨_,_,_,_,_,_,_,_,_,_,_,_,_,_,_,_,_,_,_,_,_,_,_,⟨k+1,by omega,by go_num,by rw[y.out.2.2.1];go_num,by rw[y.out.2.2.1];omega,y.out.1,y.out.2.1,y.out.2.2.2⟩,rfl⟩
 case measure=>simp[intOf];omega
theorem Wm(f:Nat)(caps:Array Value)(bad:Hd->Bool)(a:Option Addr)(cap:Nat)(w:World)(c:cap<=maxLen)
  (l:∀args w,(callFunc f args).run prog w = .ok (.enter f args) w)
  (m:Hid (∀(x:Hd) b,Below w.heap.size w b->Calls prog f (#[x.val]++caps) b λe g=>e = .returned (.bool (bad x))/\Below b.heap.size b g)) :
  Calls prog 116 #[.slice a (0:Nat) cap,.func (.func f) #[] caps] w λe g=>e = .returned (.slice a (0:Nat) cap)/\Below w.heap.size w g:=by
 have d:=c;unfold maxLen at c;go_enter func116,ntmps116;go_wp2_with fail;refine(Zx f caps bad w.heap.size a 0 cap w nlr (Qxz _) d (λ_=>hd0) (λi hi=>absurd hi (Qzq _)) l m).mono ?_;rintro e b ⟨h,k⟩;rcases h with⟨rfl,-⟩|⟨n,j,-⟩
 .go_wp2_with fail;go_ret;exact⟨rfl,k⟩
 exact absurd j (Qzq _)
theorem O7(b:Below w.heap.size w c):KeepsOthers w c:=⟨b.size,λk o a _=>(b.block k (Qkq a).1).trans a⟩
theorem O1(d:Blk w g t n f)(b:im g w c):KeepsOthers w c:=⟨b.1,λk o a h=>(b.2 k (Qkq a).1 λe=>by
 obtain⟨cur,i,_⟩:=d;rw[e,i] at a;cases a;cases h).trans a⟩
theorem Wc(f:Nat)(caps:Array Value)(bad:Hd->Bool)(A:Nat)(s:St)(w:World)(l:A<=w.heap.size)(B:ai A w s)
  (J:∀args w,(callFunc f args).run prog w = .ok (.enter f args) w)
  (G:∀(x:Hd) b,Below A w b->Calls prog f (#[x.val]++caps) b λe k=>e = .returned (.bool (bad x))/\Below b.heap.size b k) :
  Calls prog 59 #[.slice s.hs.a s.hs.n s.hs.c,.func (.func f) #[] caps] w λe k=>e = .returned (.slice (dy s.hs bad).a (dy s.hs bad).n (dy s.hs bad).c)/\ai A k (withHolds s (dy s.hs bad))/\Below A w k/\(∀q t m g,t≠103->Blk w q t m g->Blk k q t m g)/\KeepsOthers w k:=by
 obtain⟨L,o,D,M⟩:=B.hs;by_cases Q:s.hs.n=0
 .have hd:(dy s.hs bad).n=0:=by have:=za s.hs bad;omega
  rw[Q,hd];refine(Rn f caps bad s.hs.a s.hs.c w o J (λx b d=>G x b (d.mono l))).mono ?_;rintro e b ⟨rfl,d⟩;exact⟨rfl,(B.below d).withHolds ⟨by rw[hd];exact Qxz _,o,D,λh=>absurd h (by omega)⟩,d.mono l,λq t m g _ v=>v.below d,O7 d⟩
 obtain⟨g,y,K,v⟩:=M (by omega);have i:Blk w g 103 ((eTz s.hs).length*4) (hc λj=>(eTz s.hs).getD j hd0):=by
  rw[lPz];refine v.congr λq u => ?_;rw[uz u];unfold hc;dsimp only;rw[Kf (by omega)]
 have E:=Q7 f caps bad A g s.hs.c (eTz s.hs) w K l (by rw[lPz];exact L) o i J G;rw[lPz] at E;rw[y];refine E.mono ?_;rintro e b ⟨rfl,F,d,r⟩;have P:=za s.hs bad;exact⟨by show _=Ending.returned (.slice s.hs.a _ _);rw[y];rfl,B.keepG i r ⟨Qzx P L,o,D,λ_=>⟨g,y,K,F.congr λq u=>(uz (z:=(dy s.hs bad).z) u).symm⟩⟩,d,λq t m f' H p=>r.blk p (Blk.ne2 p i H),O1 i r⟩
theorem fq.keepMv{k:World}{c:Nat}{a:Option Addr}(h:fq A w 77 4 a c)(K:nu g w k):fq A k 77 4 a c:=by
 rcases h with n|⟨q,cur,j,i,b,d⟩
 .exact Or.inl n
 by_cases e:q=g
 .subst e;obtain⟨f,l,m⟩:=K.2 cur _ b;exact Or.inr ⟨q,f,j,i,l,by rw[m];exact d⟩
 exact Or.inr ⟨q,cur,j,i,(K.1.2 q (Qkq b).1 e).trans b,d⟩
theorem Xa(f:Nat)(caps:Array Value)(bad:Hd->Bool)(A:Nat)(s:St)(w:World)(l:A<=w.heap.size)(r:ai A w s)
  (J:∀args w,(callFunc f args).run prog w = .ok (.enter f args) w)
  (G:∀(x:Hd) b,Below A w b->Calls prog f (#[x.val]++caps) b λe k=>e = .returned (.bool (bad x))/\Below b.heap.size b k) :
  Calls prog 116 #[.slice s.ms.a s.ms.n s.ms.c,.func (.func f) #[] caps] w λe k=>e = .returned (.slice (dy s.ms bad).a (dy s.ms bad).n (dy s.ms bad).c)/\ai A k (withMoves s (dy s.ms bad))/\Below A w k/\(∀q t m g,t≠77->Blk w q t m g->Blk k q t m g)/\KeepsOthers w k:=by
 obtain⟨L,p,D,M⟩:=r.ms;by_cases Q:s.ms.n=0
 .have hd:(dy s.ms bad).n=0:=by have:=za s.ms bad;omega
  rw[Q,hd];refine(Wm f caps bad s.ms.a s.ms.c w p J (λx b d=>G x b (d.mono l))).mono ?_;rintro e b ⟨rfl,d⟩;have O:=r.below d;exact⟨rfl,⟨O.on,O.rows,O.rapart,O.os,O.hs,⟨by show(dy s.ms bad).n<=_;rw[hd];exact Qxz _,p,D,λh=>absurd (show 0<(dy s.ms bad).n from h) (by omega)⟩,O.msr,O.si,O.so,O.sf,O.aio,O.aif,O.aof,O.ari⟩,d.mono l,λq t m g _ y=>y.below d,O7 d⟩
 obtain⟨g,B,K,y⟩:=M (by omega);have i:Blk w g 77 ((eTz s.ms).length*4) (hc λj=>(eTz s.ms).getD j hd0):=by
  rw[lPz];refine y.congr λq v => ?_;rw[uz v];unfold hc;dsimp only;rw[Kf (by omega)]
 have E:=Xl f caps bad A g s.ms.c (eTz s.ms) w K l (by rw[lPz];exact L) p i J G;rw[lPz] at E;rw[B];refine E.mono ?_;rintro e b ⟨rfl,F,d,o⟩;have P:=za s.ms bad;exact⟨by show _=Ending.returned (.slice s.ms.a _ _);rw[B];rfl,r.keepM i o.1 ⟨Qzx P L,p,D,λ_=>⟨g,B,K,F.congr λq v=>(uz (z:=(dy s.ms bad).z) v).symm⟩⟩ (r.msr.keepMv o),d,λq t m f' H u=>o.1.blk u (Blk.ne2 u i H),O1 i o.1⟩
def abi(x:St)(b g:Int)(r:Nat)(j:Nat):Value:=(#[.slice x.on.a x.on.n x.on.c,.slice x.os.a x.os.n x.os.c,.slice x.hs.a x.hs.n x.hs.c,.slice x.ms.a x.ms.n x.ms.c,.slice x.si.a x.si.n x.si.c,.slice x.so.a x.so.n x.so.c,.slice x.sf.a x.sf.n x.sf.c,.int .i64 b,.int .i64 g,.map (some r)]:Array Value).getD j default
theorem ai.boxC(h:ai A w s)(b:Blk w q 118 n f)(j:Nat)(u:Value):ai A (w.setCell ⟨q,j,none⟩ u) s:=by
 refine⟨?_,λi hi=>(h.rows i hi).other b (by decide) j u,h.rapart,h.os.other b (by decide) (by decide) j u,h.hs.other b (by decide) j u,h.ms.other b (by decide) j u,h.msr.set q j u,h.si.other b (by decide) j u,h.so.other b (by decide) j u,h.sf.other b (by decide) j u,h.aio,h.aif,h.aof,h.ari⟩;obtain⟨g,k,e,l,d,c⟩:=h.on;exact⟨g,k,e,l,d,c.other (a:=⟨q,j,none⟩) (Blk.ne2 c b (by decide)) u⟩
theorem km.keeps{q:Int->Int->Int}(h:km w n q)(k:KeepsOthers w a):km a n q:=by
 obtain⟨e,c,d,b⟩:=h;exact⟨e,c,k.same n _ d rfl,b⟩
theorem Blk.keepR{b:World}{q:Int->Int->Int}(h:Blk w g t n f)(m:km w A q)(k:qp A w b):Blk b g t n f:=by
 obtain⟨cur,a,i⟩:=h;refine Blk.same ⟨cur,a,i⟩ (k.block g λe => ?_);obtain⟨j,c,d,-⟩:=m;rw[e,d] at a;cases a
theorem qp.ck{b:World}{q:Int->Int->Int}(m:km w n q)(k:qp n w b):ji w b:=⟨by rw[k.size];exact Nat.le_refl _,λg cur e z a=>k.block g λf=>by
 obtain⟨h,c,d,-⟩:=m;rw[f,d] at a;cases a⟩
structure gx(A BC r:Nat)(W0:World)(x:St)(b g:Int)(q:Int->Int->Int)(wk:World):Prop where
 own:ai A wk x
 box:Blk wk BC 118 10 (abi x b g r)
 map:km wk r q
 bel:Below W0.heap.size W0 wk
 le:A<=wk.heap.size
 w0:W0.heap.size<=A
 bc:A<=BC
 ra:A<=r
section
variable {A BC r:Nat} {W0 wk wj:World} {x:St} {b g:Int} {q:Int->Int->Int}
theorem gx.below(h:gx A BC r W0 x b g q wk)(a:Below wk.heap.size wk wj):gx A BC r W0 x b g q wj :=
 ⟨ai.below h.own a,h.box.below a,h.map.below a,h.bel.trans (a.mono h.bel.size),Qzx h.le a.size,h.w0,h.bc,h.ra⟩
theorem Blk.noMap{g:Nat}(h:Blk w g t n f){q:Int->Int->Int}(m:km w A q):A≠g:=λe=>by
 obtain⟨cur,b,d⟩:=h;obtain⟨i,c,a,-⟩:=m;rw[e,b] at a;cases a
def Bo(h:Hs)(i:Nat)(d:Int):Hs:=⟨h.a,h.n,h.c,gz h.z i d⟩
theorem Xi{h:Hs}{d:Int}(q:Nat)(a:q<h.n*4):(if q=i*4+3 then Value.int .i64 ((h.z i).n-d) else(ax h.n h.z).getD q default)=(ax h.n (gz h.z i d)).getD q default:=by
 rw[Mk (h:=h) (j:=i) (c:=3) (v:=(h.z i).n-d) (by decide) q a];have e:(ym h i 3 ((h.z i).n-d)).z=gz h.z i d:=by
  funext k
  show(if k=i then Fk (h.z k) 3 ((h.z i).n-d) else h.z k)=if k=i then i5 (h.z k) d else h.z k;by_cases c:k=i
  .rw[if_pos c,if_pos c,c];rfl
  rw[if_neg c,if_neg c]
 rw[e]
theorem cz.less{h:Hs}(k:cz A t w h){G:Nat}(hi:i<h.n)(c:h.a=some ⟨G,0,none⟩)(d:Int):cz A t (w.setCell ⟨G,i*4+3,none⟩ (.int .i64 ((h.z i).n-d))) (Bo h i d):=by
 obtain⟨l,o,g,e⟩:=k;refine⟨l,o,g,λp => ?_⟩;obtain⟨r,b,j,m⟩:=e (by omega);rw[c] at b;simp only[Qkx,Qkz,and_true] at b;subst b;exact⟨G,c,j,(m.set (i*4+3) _).congr λq f=>Xi q f⟩
theorem gx.moveN(h:gx A BC r W0 x b g q wk){G:Nat}(hi:i<x.ms.n)(f:x.ms.a=some ⟨G,0,none⟩)(d:Int):gx A BC r W0 (withMoves x (Bo x.ms i d)) b g q (wk.setCell ⟨G,i*4+3,none⟩ (.int .i64 ((x.ms.z i).n-d))):=by
 have k:=h.own.ms;obtain⟨t,m,l,j⟩:=h.own.ms;obtain⟨s,c,o,e⟩:=j (by omega);rw[f] at c;simp only[Qkx,Qkz,and_true] at c;subst c;refine⟨h.own.keepM e ((im.refl G wk).set _ _) (k.less hi f d) (h.own.msr.set G (i*4+3) _),h.box.other (a:=⟨G,i*4+3,none⟩) (Blk.ne2 h.box e (by decide)) _,h.map.set (e.noMap h.map) _,h.bel.setCell (p:=⟨G,i*4+3,none⟩) (by show W0.heap.size<=G;have:=h.w0;omega) _,by have:=h.le;simpa using this,h.w0,h.bc,h.ra⟩
theorem gx.holdN(h:gx A BC r W0 x b g q wk){G:Nat}(hi:i<x.hs.n)(f:x.hs.a=some ⟨G,0,none⟩)(d:Int):gx A BC r W0 (withHolds x (Bo x.hs i d)) b g q (wk.setCell ⟨G,i*4+3,none⟩ (.int .i64 ((x.hs.z i).n-d))):=by
 have k:=h.own.hs;obtain⟨t,m,l,j⟩:=h.own.hs;obtain⟨s,c,o,e⟩:=j (by omega);rw[f] at c;simp only[Qkx,Qkz,and_true] at c;subst c;refine⟨h.own.keepG e ((im.refl G wk).set _ _) (k.less hi f d),h.box.other (a:=⟨G,i*4+3,none⟩) (Blk.ne2 h.box e (by decide)) _,h.map.set (e.noMap h.map) _,h.bel.setCell (p:=⟨G,i*4+3,none⟩) (by show W0.heap.size<=G;have:=h.w0;omega) _,by have:=h.le;simpa using this,h.w0,h.bc,h.ra⟩
theorem gx.back(h:gx A BC r W0 x b g q wk){B:Nat}(f:o<x.os.n)(e:(x.os.z o).ls.a=some ⟨B,0,none⟩)(l:Nat)(v:Int):gx A BC r W0 (setLine x o l 3 v) b g q (wk.setCell ⟨B,l*4+3,none⟩ (.int .i64 v)):=by
 obtain⟨B',c,j,k,i,d⟩:=h.own.os.lines o f;rw[e] at c;simp only[Qkx,Qkz,and_true] at c;subst c;refine⟨h.own.setLine f e l 3 (by decide) v,h.box.other (a:=⟨B,l*4+3,none⟩) (Blk.ne2 h.box d (by decide)) _,h.map.set (d.noMap h.map) _,h.bel.setCell (p:=⟨B,l*4+3,none⟩) (by show W0.heap.size<=B;have:=h.w0;omega) _,by have:=h.le;simpa using this,h.w0,h.bc,h.ra⟩
theorem gx.store(h:gx A BC r W0 x b g q wk){a:Int->Int->Int}(m:km wj r a)(k:qp r wk wj):gx A BC r W0 x b g a wj :=
 ⟨h.own.ck (k.ck h.map),h.box.keepR h.map k,m,k.below h.bel (Qzx h.w0 h.ra),by rw[k.size];exact h.le,h.w0,h.bc,h.ra⟩
theorem gx.newMoves(h:gx A BC r W0 x b g q wk){m:Hs}(l:ai A wj (withMoves x m))(i:Below A wk wj)(k:∀q t n g,t≠77->Blk wk q t n g->Blk wj q t n g)(f:KeepsOthers wk wj):gx A BC r W0 (withMoves x m) b g q (wj.setCell ⟨BC,3,none⟩ (.slice m.a m.n m.c)):=by
 have d:=k _ _ _ _ (by decide) h.box;have e:=h.map.keeps f;have b1:=h.w0;have b2:=h.bc;refine⟨l.boxC d 3 _,(d.set 3 _).congr λj o => ?_,e.set (d.noMap e) _,(h.bel.trans (i.mono h.w0)).setCell (p:=⟨BC,3,none⟩) (by show W0.heap.size<=BC;omega) _,by have:=i.size;have:=h.le;simp;omega,h.w0,h.bc,h.ra⟩
 match j,o with
 | 0,_=>rfl
 | 1,_=>rfl
 | 2,_=>rfl
 | 3,_=>rfl
 | 4,_=>rfl
 | 5,_=>rfl
 | 6,_=>rfl
 | 7,_=>rfl
 | 8,_=>rfl
 | 9,_=>rfl
theorem gx.newHolds(h:gx A BC r W0 x b g q wk){m:Hs}(l:ai A wj (withHolds x m))(i:Below A wk wj)(k:∀q t n g,t≠103->Blk wk q t n g->Blk wj q t n g)(f:KeepsOthers wk wj):gx A BC r W0 (withHolds x m) b g q (wj.setCell ⟨BC,2,none⟩ (.slice m.a m.n m.c)):=by
 have d:=k _ _ _ _ (by decide) h.box;have e:=h.map.keeps f;have b1:=h.w0;have b2:=h.bc;refine⟨l.boxC d 2 _,(d.set 2 _).congr λj o => ?_,e.set (d.noMap e) _,(h.bel.trans (i.mono h.w0)).setCell (p:=⟨BC,2,none⟩) (by show W0.heap.size<=BC;omega) _,by have:=i.size;have:=h.le;simp;omega,h.w0,h.bc,h.ra⟩
 match j,o with
 | 0,_=>rfl
 | 1,_=>rfl
 | 2,_=>rfl
 | 3,_=>rfl
 | 4,_=>rfl
 | 5,_=>rfl
 | 6,_=>rfl
 | 7,_=>rfl
 | 8,_=>rfl
 | 9,_=>rfl
theorem gx.boxed(h:gx A BC r W0 x b g q wk):BC<wk.heap.size/\wk.cell? ⟨BC,0,none⟩=some (.slice x.on.a x.on.n x.on.c)/\wk.cell? ⟨BC,1,none⟩=some (.slice x.os.a x.os.n x.os.c)/\wk.cell? ⟨BC,2,none⟩=some (.slice x.hs.a x.hs.n x.hs.c)/\wk.cell? ⟨BC,3,none⟩=some (.slice x.ms.a x.ms.n x.ms.c)/\wk.cell? ⟨BC,4,none⟩=some (.slice x.si.a x.si.n x.si.c)/\wk.cell? ⟨BC,5,none⟩=some (.slice x.so.a x.so.n x.so.c)/\wk.cell? ⟨BC,6,none⟩=some (.slice x.sf.a x.sf.n x.sf.c)/\wk.cell? ⟨BC,7,none⟩=some (.int .i64 b)/\wk.cell? ⟨BC,8,none⟩=some (.int .i64 g)/\wk.cell? ⟨BC,9,none⟩=some (.map (some r)):=
 ⟨h.box.lt,h.box.k 0,h.box.k 1,h.box.k 2,h.box.k 3,h.box.k 4,h.box.k 5,h.box.k 6,h.box.k 7,h.box.k 8,h.box.k 9⟩
end
theorem Pc(x:Hd)(w:World):
  Calls prog 117 #[x.val] w λe a=>e = .returned (.bool (sd x))/\Below w.heap.size w a:=by
 unfold Hd.val sd;go_enter func117,ntmps117;go_wp2_with fail;go_ret;exact⟨rfl,brf.alloc nlr _⟩
structure Ar(x:St)(b g:Nat)(n:Int)(i:Nat)(m:Int)(z:Nat->Hd):Prop where
 rest:lf (ct b g) i (max 0 m) z=lf (ct b g) x.ms.n (max 0 n) x.ms.z
 left:tp (ct b g) (max 0 m) (cx z i)=tp (ct b g) (max 0 n) (pd x)
 pos:∀j,j<x.ms.n->0<=(z j).n/\(z j).n<=200
 le:m<=max 0 n/\(m=n\/0<=m)
theorem Ar.miss{n m:Int}(h:Ar x b g n (i+1) m z)(a:¬((z i).l=b/\(z i).o=g)):Ar x b g n i m z:=by
 have c:¬ct b g (z i)=true:=λe=>a (ze.1 e);refine⟨?_,?_,h.pos,h.le⟩
 .rw[<-h.rest];exact(if_neg c).symm
 rw[<-h.left];exact(if_neg c).symm
theorem Ar.hit{n m:Int}(h:Ar x b g n (i+1) m z)(hi:i<x.ms.n)(r:0<m)(f:(z i).l=b)(k:(z i).o=g):Ar x b g n i (m-min m (z i).n) (gz z i (min m (z i).n)):=by
 have c:ct b g (z i)=true:=ze.2 ⟨f,k⟩;have p:=h.pos i hi;have e0:max 0 m=m:=by omega
 have d:max 0 (m-min m (z i).n)=m-min m (z i).n:=by omega
 refine⟨?_,?_,λj a => ?_,?_⟩
 .rw[<-h.rest,e0,d];exact(if_pos c).symm
 .rw[<-h.left,e0,d,nx (z:=gz z i (min m (z i).n)) (z':=z) λj a=>if_neg (by omega)];exact(if_pos c).symm
 .unfold gz;have q:=h.pos j a;by_cases e:j=i
  .rw[if_pos e,e];show 0<=(z i).n-min m (z i).n/\(z i).n-min m (z i).n<=200;omega
  rw[if_neg e];exact q
 have:=h.le;omega
theorem Ar.done{n m:Int}(h:Ar x b g n i m z)(hi:i<=x.ms.n)(hd:i=0\/m<=0):z=lf (ct b g) x.ms.n (max 0 n) x.ms.z/\max 0 m=tp (ct b g) (max 0 n) (pd x):=by
 rcases hd with rfl|hd
 .exact⟨h.rest,h.left⟩
 have e:max 0 m=0:=by omega
 have r:=h.rest;have l:=h.left;rw[e] at r l;rw[Hy _ _ _ λj c=>(h.pos j (by omega)).1] at r;have l0:tp (ct b g) 0 (cx z i)=0:=by
  have k:=(ti (re b g) (R:=cx z i) (m:=0) (λy a=>by obtain⟨j,c,e⟩:=wi a;rw[<-e];exact(h.pos j (by omega)).1) (Int.le_refl _)).2;have d:=Aj (P:=ct b g) (R:=cx z i) (λy a=>by obtain⟨j,c,e⟩:=wi a;rw[<-e];exact(h.pos j (by omega)).1);omega
 rw[e,<-l,l0];exact⟨r,rfl⟩
theorem Pv(A B r:Nat)(K:World)(x:St)(b g:Nat)(q:Int->Int->Int)(n:Int)(w:World)(h:gx A B r K x b g q w)(hm:∀j,j<x.ms.n->0<=(x.ms.z j).n/\(x.ms.z j).n<=200)(hl:x.ms.n<=8)(hn : -100000<=n/\n<=100000):
  Calls prog 69 #[.pointer (some ⟨B,0,none⟩),.int .i64 n] w λe w'=>∃v:Int,e = .returned (.int .i64 v)/\max 0 v=tp (ct b g) (max 0 n) (pd x)/\(-100000<=v/\v<=100000)/\gx A B r K (withMoves x (cq (ct b g) x.ms (max 0 n))) b g q w':=by
 have f:=hid h;have H:Hid (Ar x b g n x.ms.n n x.ms.z):=⟨rfl,rfl,hm,by omega,Or.inl rfl⟩;obtain⟨u,-,-,-,V,-,-,-,-,-,-⟩:=h.boxed;have mc:=h.own.ms.2.1;have ml:=h.own.ms.1;unfold maxLen at mc;clear h hm;go_enter func69,ntmps69;go_wp2_with fail;clear u V
 go_loopw [1,5] (λnv iv wk=>∃(i:Nat) (m:Int) (z:Nat->Hd),i<=x.ms.n/\iv = .int .i64 ((i:Int)-1)/\nv = .int .i64 m/\Hid (gx A B r K (withMoves x ⟨x.ms.a,x.ms.n,x.ms.c,z⟩) b g q wk)/\Hid (Ar x b g n i m z)) (λ_ iv _=>(intOf iv+1).toNat)
 case atStart=>exact⟨x.ms.n,n,x.ms.z,Nat.le_refl _,rfl,rfl,f,H⟩
 clear f H;obtain⟨i,m,z,hi,rfl,rfl,f,H⟩:=hrel;have bp:=H.out.le;by_cases hd:i=0\/m<=0
 .have HD:Hid (z=lf (ct b g) x.ms.n (max 0 n) x.ms.z/\max 0 m=tp (ct b g) (max 0 n) (pd x)):=H.out.done hi hd;obtain⟨u,-,-,-,V,-,-,-,-,-,-⟩:=f.out.boxed;have s:wr.cell? ⟨B,3,none⟩=some (.slice x.ms.a x.ms.n x.ms.c):=V;have W:Hid (Calls prog 116 #[.slice x.ms.a x.ms.n x.ms.c,.func (.func 117) #[] #[]] wr λe w'=>e = .returned (.slice x.ms.a (cq (ct b g) x.ms (max 0 n)).n x.ms.c)/\ai A w' (withMoves x (cq (ct b g) x.ms (max 0 n)))/\Below A wr w'/\(∀q t m g,t≠77->Blk wr q t m g->Blk w' q t m g)/\KeepsOthers wr w'):=by
   have hz:=HD.out.1;have hD:=Xa 117 #[] sd A (withMoves x ⟨x.ms.a,x.ms.n,x.ms.c,z⟩) wr f.out.le f.out.own (enters_of func117 (by kernel_rfl) rfl) (λy wz _=>by rw[Array.append_empty];exact Pc y wz);rw[hz] at hD;exact hD
  clear V;by_cases bq:i=0
  .have q1:¬(0:Int)<=(i:Int)-1:=by omega
   go_wp2_with fail;refine W.out.mono ?_;rintro e w2 ⟨rfl,P,T,D,S⟩;have J:Hid (gx A B r K (withMoves x (cq (ct b g) x.ms (max 0 n))) b g q (w2.setCell ⟨B,3,none⟩ (.slice x.ms.a (cq (ct b g) x.ms (max 0 n)).n x.ms.c))):=f.out.newMoves (m:=cq (ct b g) x.ms (max 0 n)) P T D S;have L:=D _ _ _ _ (by decide) f.out.box;have y1:=L.lt;have y2:=L.frozen 3;have y3:=L.k 3;clear P T D S L W f H u s;go_wp2_with fail;go_ret;exact⟨m,rfl,HD.out.2,by omega,J.out⟩
  have bo:m<=0:=by omega
  have q1:(0:Int)<=(i:Int)-1:=by omega
  have q2:¬0<m:=by omega
  go_wp2_with fail;refine W.out.mono ?_;rintro e w2 ⟨rfl,P,T,D,S⟩;have J:Hid (gx A B r K (withMoves x (cq (ct b g) x.ms (max 0 n))) b g q (w2.setCell ⟨B,3,none⟩ (.slice x.ms.a (cq (ct b g) x.ms (max 0 n)).n x.ms.c))):=f.out.newMoves (m:=cq (ct b g) x.ms (max 0 n)) P T D S;have L:=D _ _ _ _ (by decide) f.out.box;have y1:=L.lt;have y2:=L.frozen 3;have y3:=L.k 3;clear P T D S L W f H u s;go_wp2_with fail;go_ret;exact⟨m,rfl,HD.out.2,by omega,J.out⟩
 obtain⟨k,rfl⟩:∃k,i=k+1:=⟨i-1,by omega⟩;have X:k<x.ms.n:=by omega
 have q1:(0:Int)<=(k:Int):=by omega
 have q2:0<m:=by omega
 have q3:(k:Int)<(x.ms.n:Int):=by omega
 have e1:(((k+1:Nat):Int)-1)=(k:Int):=by omega
 rw[e1];obtain⟨u,-,-,-,V,-,-,-,u7,u8,-⟩:=f.out.boxed;obtain⟨G,hG,br,hb⟩:=f.out.own.ms.2.2.2 (show 0<x.ms.n by omega);have HG:Hid (x.ms.a=some ⟨G,0,none⟩):=hG;have s:wr.cell? ⟨B,3,none⟩=some (.slice (some ⟨G,0,none⟩) x.ms.n x.ms.c):=by have h:=V;rw[hG] at h;exact h
 have z0:wr.cell? ⟨G,k*4,none⟩=some (.int .i64 (z k).o):=(hb.cell (j:=k*4) (by show k*4<x.ms.n*4;omega)).trans (congrArg some (p9 (z:=z) (c:=0) X (by decide)));have Y:wr.cell? ⟨G,k*4+1,none⟩=some (.int .i64 (z k).l):=(hb.cell (j:=k*4+1) (by show _<x.ms.n*4;omega)).trans (congrArg some (p9 (z:=z) (c:=1) X (by decide)));have z3:wr.cell? ⟨G,k*4+3,none⟩=some (.int .i64 (z k).n):=(hb.cell (j:=k*4+3) (by show _<x.ms.n*4;omega)).trans (congrArg some (p9 (z:=z) (c:=3) X (by decide)));have gl:=hb.lt;have zp:=H.out.pos k X;clear hb V
 generalize hZL:(z k).l=ZL at *
 generalize hZO:(z k).o=ZO at *
 have HZ:=qa2 hZL hZO;clear hZL hZO hd e1 hG;cases h1:(ZL==(b:Int))
 .have J:Hid (Ar x b g n k m z):=H.out.miss (λe=>by rw[HZ.out.1] at e;simp at h1;omega);have a3:(ZL !=(b:Int))=true:=by simp at h1 ⊢;omega
  have r3:=Qqq s;have r7:=Qqq u7;have r8:=Qqq u8;have M:=Qqq z0;have U:=Qqq Y;go_wp2_with fail;refine Qxq (by kernel_rfl) (by kernel_rfl) ?_
  repeat(go_big_quiet_step(fail))
  refine Qqz ?_;intro _ Q;obtain⟨⟨p,d⟩,F⟩:=Q;subst F;have au:=Qqq z3 p d;have aq:=Xzx gl (Qxx wr p d).size;have E:Hid (gx A B r K (withMoves x ⟨x.ms.a,x.ms.n,x.ms.c,z⟩) b g q (grow (redrawn wr p) d)):=f.out.below (Qxx wr p d);clear r3 r7 r8 M U s u7 u8 z0 Y z3 f gl u
  generalize grow (redrawn wr p) d=wz at *
  go_wp2_with fail;go_roundw
  case rel=>exact⟨k,m,z,by omega,by go_num,rfl,E,J⟩
  case measure=>simp[intOf]
 have a3:(ZL !=(b:Int))=false:=by simp at h1 ⊢;omega
 cases h2:(ZO==(g:Int))
 .have J:Hid (Ar x b g n k m z):=H.out.miss (λe=>by rw[HZ.out.2] at e;simp at h2;omega);have bd:(ZO !=(g:Int))=true:=by simp at h2 ⊢;omega
  have r3:=Qqq s;have r7:=Qqq u7;have r8:=Qqq u8;have M:=Qqq z0;have U:=Qqq Y;go_wp2_with fail;refine Qxq (by kernel_rfl) (by kernel_rfl) ?_
  repeat(go_big_quiet_step(fail))
  refine Qqz ?_;intro _ Q;obtain⟨⟨p,d⟩,F⟩:=Q;subst F;have au:=Qqq z3 p d;have aq:=Xzx gl (Qxx wr p d).size;have E:Hid (gx A B r K (withMoves x ⟨x.ms.a,x.ms.n,x.ms.c,z⟩) b g q (grow (redrawn wr p) d)):=f.out.below (Qxx wr p d);clear r3 r7 r8 M U s u7 u8 z0 Y z3 f gl u
  generalize grow (redrawn wr p) d=wz at *
  go_wp2_with fail;go_roundw
  case rel=>exact⟨k,m,z,by omega,by go_num,rfl,E,J⟩
  case measure=>simp[intOf]
 have bd:(ZO !=(g:Int))=false:=by simp at h2 ⊢;omega
 have J:Hid (Ar x b g n k (m-min m (z k).n) (gz z k (min m (z k).n))):=H.out.hit X q2 (by rw[HZ.out.1];simpa using h1) (by rw[HZ.out.2];simpa using h2);have r3:=Qqq s;have r7:=Qqq u7;have r8:=Qqq u8;have M:=Qqq z0;have U:=Qqq Y;go_wp2_with fail;refine Qxq (by kernel_rfl) (by kernel_rfl) ?_
 repeat(go_big_quiet_step(fail))
 refine Qqz ?_;intro _ Q;obtain⟨⟨p,d⟩,F⟩:=Q;subst F;have au:=Qqq z3 p d;have aq:=Xzx gl (Qxx wr p d).size;have E:Hid (gx A B r K (withMoves x ⟨x.ms.a,x.ms.n,x.ms.c,z⟩) b g q (grow (redrawn wr p) d)):=f.out.below (Qxx wr p d);clear r3 r7 r8 M U s u7 u8 z0 Y z3 f gl u
 generalize grow (redrawn wr p) d=wz at *
 obtain⟨ba,a7,a2,ap⟩:=E.out.own.ms;obtain⟨G',ao,ax,ar⟩:=ap (show 0<x.ms.n by omega);have eG:G=G':=by
  have e:x.ms.a=some ⟨G',0,none⟩:=ao;rw[HG.out] at e
  simpa using e
 subst eG;have fz:=ar.frozen (k*4+3);have bb:Hid (gx A B r K (withMoves x ⟨x.ms.a,x.ms.n,x.ms.c,gz z k (min m (z k).n)⟩) b g q (wz.setCell ⟨G,k*4+3,none⟩ (.int .i64 ((z k).n-min m (z k).n)))):=E.out.moveN (i:=k) (G:=G) X HG.out (min m (z k).n);clear ba a7 a2 ap ao ax ar E
 generalize (z k).n=ZN at *
 go_wp2_with fail;go_roundw
 case rel=>exact⟨k,m-min m ZN,gz z k (min m ZN),by omega,by go_num,by go_num,bb,J⟩
 case measure=>simp[intOf]
def vu(dn:Nat->Bool)(i j:Nat):Bool:=if j=i then true else dn j
theorem Hv(a:Nat->Bool)(i:Nat):vu a i i=true:=if_pos rfl
theorem ov{a:Nat->Bool}(h:¬j=i):vu a i j=a j:=if_neg h
theorem Xy{c:Array Oper}{T:Nat->Bool}{b:List Nat}{I:(Nat->Bool)->(Nat->Value)->World->Prop}{fuel:Nat}(hB:ut c b L=true)(hT:∀r∈b,T r=false)
  (step:∀i∈b,∀(t:Nat->Bool) (V:Nat->Value) (w:World) (K:Act->World->Prop),S w->t i=false->(∀d∈ja c i,d∈b->t d=true)->I t V w ->
   (∀v G,S G->I (vu t i) (upd V i v) G->K ((ap c b V a1).put (bu c i) v) G)->wpOp P c Q i K (ap c b V a1) w)
  (done:∀(t:Nat->Bool) (V:Nat->Value) (w:World),S w->(∀j∈b,t j=true)->I t V w->nk P c Q S T fuel (ip L b) (ap c b V a1) w) :
  ∀(m:Nat) (a:Array Bool) (V:Nat->Value) (w:World),(b.filter (λr => !a.getD r true)).length=m->a.size=c.size->(∀j,j ∉ b->a[j]?=L[j]?)->ni c a->S w->I (λj=>a.getD j true) V w ->
   nk P c Q S T (m+fuel) a (ap c b V a1) w:=by
 simp only[ut,Xxx,decide_eq_true_eq] at hB;obtain⟨⟨⟨⟨aj,U⟩,ai⟩,a7⟩,X⟩:=hB;have k:∀r∈b,r<c.size/\L.getD r true=false:=λr B=>by
  have:=List.all_eq_true.1 ai r B
  simpa using this
 intro m
 induction m with
 | zero =>
  intro a V w E y l M hS hI;have A:∀r∈b,a.getD r true=true:=λr B=>by
   cases hq:a.getD r true
   .have:r∈b.filter (λr => !a.getD r true):=List.mem_filter.2 ⟨B,by simp[hq]⟩;rw[List.length_eq_zero_iff.1 E] at this;simp at this
   rfl
  have hl:a=ip L b:=by
   apply Array.ext_getElem?
   intro j;by_cases p:j<L.size
   .rw[Az b L j p];by_cases u:j∈b
    .rw[if_pos u];have g:=A j u;have f:j<a.size:=by omega
     simp only[Array.getD,f,dif_pos] at g;simp[f];exact g
    rw[if_neg u];exact l j u
   rw[Array.getElem?_eq_none (by omega),Array.getElem?_eq_none (by rw[zj];omega)]
  rw[Nat.zero_add];have h:=done (λj=>a.getD j true) V w hS A hI;rw[<-hl] at h;exact h
 | succ m ih =>
  intro a V w E y l M hS hI;have aa:∃r∈b,a.getD r true=false:=by
   have av:b.filter (λr => !a.getD r true)≠[]:=λe=>by rw[e] at E;simp at E
   obtain⟨x,hx⟩:=List.exists_mem_of_ne_nil _ av;have:=List.mem_filter.1 hx;exact⟨x,this.1,by simpa using this.2⟩
  have aq:∀d,L.getD d false=true->a.getD d false=true:=λd hd=>by
   by_cases z:d∈b
   .have g:=(k d z).2;have f:d<L.size:=by have:=(k d z).1;omega
    simp only[Array.getD,f,dif_pos] at g hd;rw[g] at hd;cases hd
   have g:=l d z;by_cases f:d<L.size
   .have F:d<a.size:=by omega
    simp only[Array.getD,f,F,dif_pos] at hd ⊢;simp only[Array.getElem?_eq_getElem f,Array.getElem?_eq_getElem F,Qkx] at g;rw[Array.getInternal_eq_getElem] at hd ⊢;rw[g];exact hd
   simp[Array.getD,f] at hd
  obtain⟨r0,a6,ag⟩:=xj y [] b U aq (λd hd=>by simp at hd) (λr B=>(k r B).1) aa;rw[Nat.add_right_comm];refine⟨λh0=>absurd (h0▸ag) (by simp),λi hi => ?_⟩;obtain⟨s,o,ho,ac⟩:=mem_ready.1 hi;have W:∀d∈ja c i,a.getD d false=true:=λd hd=>by
   unfold ja at hd;rw[ho] at hd;obtain⟨e,he,rfl⟩:=List.mem_map.1 hd;have:=List.mem_filter.1 he;exact ac e (by simpa using this.1) this.2
  have ab:∀d,a.getD d false=true->a.getD d true=true:=λd hd=>by
   by_cases f:d<a.size
   .simpa[Array.getD,f] using hd
   simp[Array.getD,f]
  have n:i∈b:=by
   cases hc:b.contains i;rotate_left
   .exact Qjz hc
   exfalso;have an:i<c.size:=(Qkq ho).1;have ax:i ∉ b:=λh=>by
    have:=List.contains_iff_mem.2 h;rw[this] at hc;cases hc
   have g:=List.all_eq_true.1 aj i (List.mem_range.2 an);have am:L.getD i true=false:=by
    have f:=l i ax;have F:i<L.size:=by omega
    have h4:i<a.size:=by omega
    simp only[Array.getElem?_eq_getElem F,Array.getElem?_eq_getElem h4,Qkx] at f;simp only[Array.getD,F,h4,dif_pos] at s ⊢;rw[Array.getInternal_eq_getElem] at s ⊢;rw[<-f];exact s
   rw[am,hc] at g;simp only[Bool.false_or] at g;obtain⟨q,hq,ar⟩:=aa;have h5:=List.all_eq_true.1 g q hq;have h6:=ab q (wn M _ i q (Aa hi) h5);rw[ar] at h6;cases h6
  have aw:i<a.size:=by rw[y];exact(k i n).1
  have af:a.getD i true=false:=s;refine step i n (λj=>a.getD j true) V w _ hS af (λd hd z=>ab d (W d hd)) hI (λv G Y al => ?_);refine⟨λ_=>Y,?_⟩;rw[xv X n];have D:∀j,(a.setIfInBounds i true).getD j true=if j=i then true else a.getD j true:=λj=>by
   by_cases p:j=i
   .subst p;simp[Array.getD,aw]
   rw[if_neg p,getD_set_ne true (λe=>p e.symm)]
  refine ih (a.setIfInBounds i true) (upd V i v) G ?_ (by simpa using y) (λj p => ?_) (M.set hi) Y ?_
  .have H:b.Nodup:=by
    exact(List.pairwise_map.1 X).imp (λh e=>h (by rw[e]))
   have J:(b.filter (λr => !(a.setIfInBounds i true).getD r true))=(b.filter (λr => !a.getD r true)).erase i:=by
    have e2:b.filter (λr => !(a.setIfInBounds i true).getD r true)=(b.filter (λr => !a.getD r true)).filter (λr=>r !=i):=by
     rw[List.filter_filter];refine List.filter_congr λx hx => ?_;rw[D x];by_cases ak:x=i<;>simp[ak]
    rw[e2,<-List.Nodup.erase_eq_filter (H.filter _)]
   rw[J,List.length_erase_of_mem (List.mem_filter.2 ⟨n,by simp[s]⟩),E]
   rfl
  .rw[Array.getElem?_setIfInBounds,if_neg (λe:i=j=>p (by rw[<-e];exact n))];exact l j p
  have e:(λj=>(a.setIfInBounds i true).getD j true)=vu (λj=>a.getD j true) i:=funext λj=>D j;rw[e];exact al
theorem Qi(V:Nat->Value)(i:Nat)(v:Value):upd V i v i=v:=if_pos rfl
theorem C8(V:Nat->Value)(v:Value)(h:¬j=i):upd V i v j=V j:=if_neg h
theorem Pk{l:List Oper}{a:Act}(b:List Nat)
  (x:P.follows .mixedOrders=true) (q:ut l.toArray b (Array.replicate l.length false)=true) (z:Ka l.toArray [] (ip (Array.replicate l.length false) b)=true) (F:b.length=l.length)
  (I:(Nat->Bool)->(Nat->Value)->World->Prop) (m:∀(c:Nat->Bool) (V:Nat->Value),(∀j∈b,c j=false)->I c V w.drew)
  (step:∀i∈b,∀(c:Nat->Bool) (V:Nat->Value) (w:World) (K:Act->World->Prop),c i=false->(∀d∈ja l.toArray i,d∈b->c d=true)->I c V w ->
   (∀v e,I (vu c i) (upd V i v) e->K ((ap l.toArray b V a).put (bu l.toArray i) v) e)->wpOp P l.toArray (NoPanic Q) i K (ap l.toArray b V a) w)
  (done:∀(c:Nat->Bool) (V:Nat->Value) (w:World),(∀j∈b,c j=true)->I c V w->NoPanic Q .normal (ap l.toArray b V a) w):(Code.region R l.toArray true).wp P Q a w:=by
 refine wp_region_noPanic (wp_region_any x ?_);have f:=q;simp only[ut,Xxx,decide_eq_true_eq] at f;have g:(b.filter (λr => !(Array.replicate l.length false).getD r true))=b:=by
  rw[List.filter_eq_self];intro r A;have:=List.all_eq_true.1 f.1.1.2 r A;simp only[Xxx] at this;exact this.2
 have n:∀j∈b,(Array.replicate l.length false).getD j true=false:=λj B=>by
  have:=List.all_eq_true.1 f.1.1.2 j B;simp only[Xxx] at this
  simpa using this.2
 obtain⟨h,p⟩:∃h,ap l.toArray b h a=a:=⟨_,vd a b⟩;have:=Xy (P:=P) (Q:=NoPanic Q) (S:=λ_=>True) (T:=λ_=>false) (a1:=a) (fuel:=0) (I:=I) q (λ_ _=>rfl) (λi hi c V w K _ E G u s=>step i hi c V w K E G u λv e D=>s v e trivial D)
  (λc V e H hd y=>Cm [] _ _ e z (λt i o=>by simp at o) (done c V e hd y))
  b.length (Array.replicate l.length false) h w.drew (by rw[g]) f.1.2 (λ_ _=>rfl) (ni.none _ _) trivial (m _ _ n)
 rw[p] at this;have k:=Ab _ _ _ _ this;rw[F] at k
 simpa using k
theorem Pn(x:Hd)(w:World):
  Calls prog 115 #[x.val] w λe a=>e = .returned (.bool (sd x))/\Below w.heap.size w a:=by
 unfold Hd.val sd;go_enter func115,ntmps115;go_wp2_with fail;go_ret;exact⟨rfl,brf.alloc nlr _⟩
def mr(x:St)(q:Int->Int->Int):St:=⟨x.on,Ev x.os q,x.hs,x.ms,x.si,x.so,x.sf⟩
theorem Uo(x:Hd):tq x 0=x:=by unfold tq;rw[Int.add_zero]
theorem Tp(x:St):mr x (λ_ _=>0)=x:=by
 unfold mr Ev;simp only[Uo]
theorem X4(x:St)(q:Int->Int->Int)(o l:Nat)(d:Int):setLine (mr x q) o l 3 (((x.os.z o).ls.z l).n+q o l+d)=mr x (qx q o l (q o l+d)):=by
 unfold setLine mr Cg Ev
 congr 2
 funext i
 by_cases hi:i=o
 .rw[if_pos hi];subst hi
  congr 2
  unfold ym
  congr 1
  funext j
  dsimp only;by_cases a:j=l
  .rw[if_pos a,a];unfold Fk tq qx;rw[if_neg (by decide),if_neg (by decide),if_neg (by decide),if_pos ⟨rfl,rfl⟩,Int.add_assoc]
  rw[if_neg a];unfold qx;rw[if_neg (λe=>a (by omega))]
 rw[if_neg hi];dsimp only
 congr 2
 funext j
 unfold qx;rw[if_neg (λe=>hi (by omega))]
structure vm(x:St)(b g:Nat)(n:Int)(i:Nat)(m:Int)(z:Nat->Hd)(q:Int->Int->Int):Prop where
 rest:lf (cd x b g) i (max 0 m) z=lf (cd x b g) x.hs.n (max 0 n) x.hs.z
 sum:∀o l,q o l+ky (cd x b g) (max 0 m) (cx z i) o l=ky (cd x b g) (max 0 n) (l7 x) o l
 q0:∀o l,0<=q o l
 pos:∀j,j<x.hs.n->0<=(z j).n/\(z j).n<=200
 key:∀j,j<x.hs.n->(z j).o=(x.hs.z j).o/\(z j).l=(x.hs.z j).l/\(z j).b=(x.hs.z j).b
 le:m<=max 0 n/\(m=n\/0<=m)
theorem vm.revP{n m:Int}{q:Int->Int->Int}(h:vm x b g n i m z q)(hi:i<=x.hs.n):vh (cx z i):=λy a=>by
 obtain⟨j,c,e⟩:=wi a;rw[<-e];exact(h.pos j (by omega)).1
theorem vm.qle{n m:Int}{q:Int->Int->Int}(h:vm x b g n i m z q)(hi:i<=x.hs.n)(o l:Int):q o l<=ky (cd x b g) (max 0 n) (l7 x) o l:=by
 have a:=h.sum o l;have c:=Iy (cd x b g) o l (m:=max 0 m) (h.revP hi) (by omega);omega
theorem vm.miss{n m:Int}{q:Int->Int->Int}(h:vm x b g n (i+1) m z q)(a:¬((z i).b=b/\jo x (z i)=g)):vm x b g n i m z q:=by
 have c:¬cd x b g (z i)=true:=λe=>a (vn.1 e);refine⟨?_,λo l => ?_,h.q0,h.pos,h.key,h.le⟩
 .rw[<-h.rest];exact(if_neg c).symm
 rw[<-h.sum o l]
 congr 1
 exact(if_neg c).symm
theorem vm.hit{n m:Int}{q:Int->Int->Int}(h:vm x b g n (i+1) m z q)(hi:i<x.hs.n)(B:0<m)(u:(z i).b=b)(y:jo x (z i)=g)(t:(z i).o=o)(v:(z i).l=l):vm x b g n i (m-min m (z i).n) (gz z i (min m (z i).n)) (qx q o l (q o l+min m (z i).n)):=by
 have c:cd x b g (z i)=true:=vn.2 ⟨u,y⟩;have p:=h.pos i hi;have e0:max 0 m=m:=by omega
 have r:max 0 (m-min m (z i).n)=m-min m (z i).n:=by omega
 have le:=h.le;refine⟨?_,λa k => ?_,λa k => ?_,λj d => ?_,λj d => ?_,by omega⟩
 .rw[<-h.rest,e0,r];exact(if_pos c).symm
 .have s:=h.sum a k;have A:ky (cd x b g) m (cx z (i+1)) a k=(if (z i).o=a/\(z i).l=k then min m (z i).n else 0)+ky (cd x b g) (m-min m (z i).n) (cx z i) a k:=if_pos c;rw[e0,A,t,v] at s;rw[r,nx (z:=gz z i (min m (z i).n)) (z':=z) λj d=>if_neg (by omega)];unfold qx;by_cases e:a=o/\k=l
  .rw[if_pos ⟨e.1.symm,e.2.symm⟩] at s;rw[if_pos e];rw[e.1,e.2] at s ⊢;omega
  rw[if_neg (λf=>e ⟨f.1.symm,f.2.symm⟩)] at s;rw[if_neg e];omega
 .have:=h.q0 a k;have:=h.q0 o l;unfold qx
  split<;>omega
 .unfold gz;have w:=h.pos j d;by_cases e:j=i
  .rw[if_pos e,e];show 0<=(z i).n-min m (z i).n/\(z i).n-min m (z i).n<=200;omega
  rw[if_neg e];exact w
 unfold gz;have w:=h.key j d;by_cases e:j=i
 .rw[if_pos e];exact w
 rw[if_neg e];exact w
theorem vm.done{n m:Int}{q:Int->Int->Int}(h:vm x b g n i m z q)(hi:i<=x.hs.n)(hd:i=0\/m<=0):z=lf (cd x b g) x.hs.n (max 0 n) x.hs.z/\q=ky (cd x b g) (max 0 n) (l7 x):=by
 rcases hd with rfl|hd
 .refine⟨h.rest,?_⟩
  funext o l
  rw[<-h.sum o l];exact(Int.add_zero _).symm
 have e:max 0 m=0:=by omega
 have r:=h.rest;rw[e,Hy _ _ _ λj a=>(h.pos j (by omega)).1] at r;refine⟨r,?_⟩
 funext o l
 rw[<-h.sum o l,e,Bl _ _ _ (h.revP hi),Int.add_zero]
theorem wu{f:Nat}{P:World}{q:Int->Int->Int}{k G B:Nat}(h:gx A f R P (withHolds (mr x q) ⟨x.hs.a,x.hs.n,x.hs.c,z⟩) b g V d)(p:k<x.hs.n)(Q:(z k).o=(o:Int))(Y:(z k).l=(l:Int))(on:o<x.os.n)(ln:l<(x.os.z o).ls.n)(y:x.hs.a=some ⟨G,0,none⟩)(K:x.os.a=some ⟨m,0,none⟩)(F:(x.os.z o).ls.a=some ⟨B,0,none⟩):
  f<d.heap.size/\d.cell? ⟨f,1,none⟩=some (.slice (some ⟨m,0,none⟩) x.os.n x.os.c)/\d.cell? ⟨f,2,none⟩=some (.slice (some ⟨G,0,none⟩) x.hs.n x.hs.c)/\d.cell? ⟨f,7,none⟩=some (.int .i64 (b:Int))/\d.cell? ⟨f,8,none⟩=some (.int .i64 (g:Int))/\d.cell? ⟨f,9,none⟩=some (.map (some R)) /\
  G<d.heap.size/\d.cell? ⟨G,k*4,none⟩=some (.int .i64 (o:Int))/\d.cell? ⟨G,k*4+1,none⟩=some (.int .i64 (l:Int))/\d.cell? ⟨G,k*4+2,none⟩=some (.int .i64 (z k).b)/\d.cell? ⟨G,k*4+3,none⟩=some (.int .i64 (z k).n) /\
  m<d.heap.size/\d.cell? ⟨m,o*2+1,none⟩=some (.slice (some ⟨B,0,none⟩) (x.os.z o).ls.n (x.os.z o).ls.c)/\B<d.heap.size/\d.cell? ⟨B,l*4,none⟩=some (.int .i64 ((x.os.z o).ls.z l).o)/\d.cell? ⟨B,l*4+3,none⟩=some (.int .i64 (((x.os.z o).ls.z l).n+q o l))/\(∀j,d.frozen? ⟨G,j,none⟩=false)/\(∀j,d.frozen? ⟨B,j,none⟩=false)/\¬G=B:=by
 obtain⟨u,-,u1,M,-,-,-,-,q',u8,S⟩:=h.boxed;obtain⟨E,D,ac,i⟩:=h.own.hs.2.2.2 (show 0<x.hs.n by omega);obtain⟨v,B',c1,c2,c3,c4,c5,c6,T,c8,c9,J,L,d1,d2,W⟩:=h.own.lineCell (o:=o) (l:=l) on ln;have X:G=E:=by have e:x.hs.a=some ⟨E,0,none⟩:=D;rw[y] at e;simpa using e
 have U:m=v:=by have e:x.os.a=some ⟨v,0,none⟩:=c1;rw[K] at e;simpa using e
 have w:B=B':=by have e:(x.os.z o).ls.a=some ⟨B',0,none⟩:=c5;rw[F] at e;simpa using e
 subst X U w;have t:d.cell? ⟨f,1,none⟩=some (.slice x.os.a x.os.n x.os.c):=u1;have s:d.cell? ⟨f,2,none⟩=some (.slice x.hs.a x.hs.n x.hs.c):=M;rw[K] at t;rw[y] at s;have H:=h.own.os.lines o on;obtain⟨B',b1,b2,b3,b4,b5⟩:=H;have w:B=B':=by have e:(x.os.z o).ls.a=some ⟨B',0,none⟩:=b1;rw[F] at e;simpa using e
 subst w;exact⟨u,t,s,q',u8,S,i.lt,(i.cell (j:=k*4) (by show k*4<x.hs.n*4;omega)).trans (congrArg some ((p9 (z:=z) (c:=0) p (by decide)).trans (by rw[<-Q];rfl))),(i.cell (j:=k*4+1) (by show _<x.hs.n*4;omega)).trans (congrArg some ((p9 (z:=z) (c:=1) p (by decide)).trans (by rw[<-Y];rfl))),(i.cell (j:=k*4+2) (by show _<x.hs.n*4;omega)).trans (congrArg some (p9 (z:=z) (c:=2) p (by decide))),(i.cell (j:=k*4+3) (by show _<x.hs.n*4;omega)).trans (congrArg some (p9 (z:=z) (c:=3) p (by decide))),c3,c4,T,L,W,λj=>i.frozen j,J,Blk.ne2 i b5 (by decide)⟩
def aa7(BC r G k o l:Nat)(qv d:Int)(j:Nat):Value:=(#[.pointer (some ⟨BC,0,none⟩),.pointer (some ⟨BC,0,none⟩),.pointer (some ⟨BC,9,none⟩),.map (some r),.pointer (some ⟨G,k*4,none⟩),.pointer (some ⟨G,k*4,none⟩),.pointer (some ⟨G,k*4,none⟩),.int .i64 (o:Int),.pointer (some ⟨G,k*4,none⟩),.pointer (some ⟨G,k*4,none⟩),.pointer (some ⟨G,k*4+1,none⟩),.int .i64 (l:Int),mv o l,.int .i64 qv,.int .i64 d,.int .i64 (qv+d)]:Array Value).getD j default
structure te(A BC r:Nat)(W0:World)(X:St)(b g:Nat)(q:Int->Int->Int)(o l G k:Nat)(d:Int)(dn:Nat->Bool)(V:Nat->Value)(w:World):Prop where
 val:∀j,j<16->dn j=true->V j=aa7 BC r G k o l (q o l) d j
 cut:dn 18=false->gx A BC r W0 X b g q w
 fin:dn 18=true->gx A BC r W0 X b g (qx q o l (q o l+d)) w
 ent:dn 16=true->dn 18=false->∃(v0:Value) (st:Nat),V 16 = .tuple #[v0,goInt st]/\(dn 17=true->V 17=goInt st)/\∀v:Int,∃w2,(Instr.entryStore 116 (.map (some r)) (goInt st) (.int .i64 v)).run prog w = .ok () w2/\km w2 r (qx q o l v)/\qp r w w2
 c18:dn 18=true->dn 15=true/\dn 17=true
 c15:dn 15=true->dn 13=true
 c17:dn 17=true->dn 16=true
section
variable {A BC r:Nat} {W0:World} {X:St} {b g:Nat} {q:Int->Int->Int} {o l G k:Nat} {d:Int} {dn:Nat->Bool} {V:Nat->Value} {w:World}
theorem te.any(h:te A BC r W0 X b g q o l G k d dn V w):∃q',gx A BC r W0 X b g q' w:=by
 cases e:dn 18
 .exact⟨_,h.cut e⟩
 exact⟨_,h.fin e⟩
theorem te.not13(h:te A BC r W0 X b g q o l G k d dn V w)(e:dn 13=false):dn 18=false:=by
 cases a:dn 18
 .rfl
 rw[h.c15 (h.c18 a).1] at e;cases e
theorem te.not17(h:te A BC r W0 X b g q o l G k d dn V w)(e:dn 17=false):dn 18=false:=by
 cases a:dn 18
 .rfl
 rw[(h.c18 a).2] at e;cases e
theorem te.not16(h:te A BC r W0 X b g q o l G k d dn V w)(e:dn 16=false):dn 18=false/\dn 17=false:=by
 have a:dn 17=false:=by
  cases c:dn 17
  .rfl
  rw[h.c17 c] at e;cases e
 exact⟨h.not17 a,a⟩
theorem up(h:dn j=true):vu dn i j=true:=by
 by_cases e:j=i
 .rw[e];exact Hv dn i
 rw[ov e];exact h
theorem te.put(h:te A BC r W0 X b g q o l G k d dn V w)(hi:i<16)(t:v=aa7 BC r G k o l (q o l) d i)(m:i=15->dn 13=true):te A BC r W0 X b g q o l G k d (vu dn i) (upd V i v) w:=by
 have c:vu dn i 18=dn 18:=ov (by omega);have f:vu dn i 17=dn 17:=ov (by omega);have n:vu dn i 16=dn 16:=ov (by omega);refine⟨λj u hd => ?_,λhd=>h.cut (c▸hd),λhd=>h.fin (c▸hd),λa p => ?_,λa => ?_,λa => ?_,λa => ?_⟩
 .by_cases e:j=i
  .rw[e,Qi];exact t
  rw[C8 V v e];rw[ov e] at hd;exact h.val j u hd
 .rw[n] at a;rw[c] at p;obtain⟨z,st,x,B,y⟩:=h.ent a p;exact⟨z,st,by rw[C8 V v (by omega)];exact x,λs=>by rw[C8 V v (by omega)];exact B (f▸s),y⟩
 .rw[c] at a;exact⟨up (h.c18 a).1,up (h.c18 a).2⟩
 .by_cases e:15=i
  .exact up (m e.symm)
  rw[ov e] at a;exact up (h.c15 a)
 rw[f] at a;exact up (h.c17 a)
theorem te.entry(h:te A BC r W0 X b g q o l G k d dn V w)(D:dn 16=false){z:Value}{n:World}(m:km n r q)(c:qp r w n)(hs:∀v:Int,∃e,(Instr.entryStore 116 (.map (some r)) (goInt R) (.int .i64 v)).run prog n = .ok () e/\km e r (qx q o l v)/\qp r w e):te A BC r W0 X b g q o l G k d (vu dn 16) (upd V 16 (.tuple #[z,goInt R])) n:=by
 obtain⟨i,x⟩:=h.not16 D;have p:vu dn 16 18=dn 18:=ov (by omega);have y:vu dn 16 17=dn 17:=ov (by omega);refine⟨λj B hd => ?_,λhd=>(h.cut i).store m c,λhd => ?_,λa F => ?_,λa => ?_,λa => ?_,λa => ?_⟩
 .rw[C8 V _ (by omega)];rw[ov (by omega)] at hd;exact h.val j B hd
 .rw[p,i] at hd;cases hd
 .refine⟨z,R,Qi _ _ _,λu => ?_,λv => ?_⟩
  .rw[y,x] at u;cases u
  obtain⟨e,a1,E,f⟩:=hs v;exact⟨e,a1,E,⟨f.os.trans c.os.symm,f.tape.trans c.tape.symm,f.output.trans c.output.symm,f.size.trans c.size.symm,λs t=>(f.block s t).trans (c.block s t).symm⟩⟩
 .rw[p,i] at a;cases a
 .rw[ov (by omega)] at a;exact up (h.c15 a)
 exact Hv dn 16
theorem te.extract(h:te A BC r W0 X b g q o l G k d dn V w)(z:dn 17=false)(i:dn 16=true){n:Value}(p:V 16 = .tuple #[n,goInt R]):te A BC r W0 X b g q o l G k d (vu dn 17) (upd V 17 (goInt R)) w:=by
 have c:=h.not17 z;have m:vu dn 17 18=dn 18:=ov (by omega);refine⟨λj x hd => ?_,λhd=>h.cut c,λhd => ?_,λa B => ?_,λa => ?_,λa => ?_,λa=>up i⟩
 .rw[C8 V _ (by omega)];rw[ov (by omega)] at hd;exact h.val j x hd
 .rw[m,c] at hd;cases hd
 .obtain⟨s,f,a1,D,t⟩:=h.ent i c;have y:goInt f=goInt R:=by
   have e:=a1.symm.trans p;simp only[Value.tuple.injEq] at e;have u:(#[s,goInt f]:Array Value)[1]?=(#[n,goInt R]:Array Value)[1]?:=by rw[e]
   simpa using u
  refine⟨n,R,by rw[C8 V _ (by omega)];exact p,λ_=>Qi _ _ _,λv => ?_⟩;rw[<-y];exact t v
 .rw[m,c] at a;cases a
 rw[ov (by omega)] at a;exact up (h.c15 a)
theorem te.store(h:te A BC r W0 X b g q o l G k d dn V w)(t:dn 18=false)(n:dn 15=true)(f:dn 17=true){e:World}(m:km e r (qx q o l (q o l+d)))(s:qp r w e)(v:Value):te A BC r W0 X b g q o l G k d (vu dn 18) (upd V 18 v) e:=by
 have c:vu dn 18 18=true:=Hv dn 18;refine⟨λj p hd => ?_,λhd => ?_,λ_=>(h.cut t).store m s,λa i => ?_,λ_=>⟨up n,up f⟩,λa => ?_,λa => ?_⟩
 .rw[C8 V _ (by omega)];rw[ov (by omega)] at hd;exact h.val j p hd
 .rw[c] at hd;cases hd
 .rw[c] at i;cases i
 .rw[ov (by omega)] at a;exact up (h.c15 a)
 rw[ov (by omega)] at a;exact up (h.c17 a)
end
theorem Qf(p:Pl)(A J r:Nat)(W0:World)(x:St)(b g:Nat)(n:Int)(w:World)(h:gx A J r W0 x b g (λ_ _=>0) w)(f:cw p x)(H : -100000<=n/\n<=100000)(hq:∀o l,ky (cd x b g) (max 0 n) (l7 x) o l<=100000):
  Calls prog 68 #[.pointer (some ⟨J,0,none⟩),.int .i64 n] w λe w'=>e = .returned (.tuple #[])/\gx A J r W0 (withHolds (mr x (ky (cd x b g) (max 0 n) (l7 x))) (cq (cd x b g) x.hs (max 0 n))) b g (ky (cd x b g) (max 0 n) (l7 x)) w':=by
 have S:Hid (gx A J r W0 (withHolds (mr x (λ_ _=>0)) ⟨x.hs.a,x.hs.n,x.hs.c,x.hs.z⟩) b g (λ_ _=>0) w):=by
  show gx A J r W0 (withHolds (mr x (λ_ _=>0)) x.hs) b g (λ_ _=>0) w;rw[Tp];exact h
 have HM:Hid (vm x b g n x.hs.n n x.hs.z (λ_ _=>0)):=⟨rfl,λo l=>Int.zero_add _,λ_ _=>Int.le_refl _,λj hj=>by have:=f.holdN j hj;omega,λ_ _=>⟨rfl,rfl,rfl⟩,by omega,Or.inl rfl⟩;obtain⟨u,-,-,P,-,-,-,-,-,-,-⟩:=h.boxed;have mc:=h.own.hs.2.1;have ml:=h.own.hs.1;unfold maxLen at mc;have fm:=f.hs72;have HF:=hid f;have HQ:=hid hq;clear h f hq;go_enter func68,ntmps68;go_wp2_with fail;clear u P
 go_loopw [1,4] (λnv iv F=>∃(i:Nat) (m:Int) (z:Nat->Hd) (q:Int->Int->Int),i<=x.hs.n/\iv = .int .i64 ((i:Int)-1)/\nv = .int .i64 m/\Hid (gx A J r W0 (withHolds (mr x q) ⟨x.hs.a,x.hs.n,x.hs.c,z⟩) b g q F)/\Hid (vm x b g n i m z q)) (λ_ iv _=>(intOf iv+1).toNat)
 case atStart=>exact⟨x.hs.n,n,x.hs.z,λ_ _=>0,Nat.le_refl _,rfl,rfl,S,HM⟩
 clear S HM;obtain⟨i,m,z,q,hi,rfl,rfl,S,HM⟩:=hrel;have fl:=HM.out.le;by_cases hd:i=0\/m<=0
 .have HD:Hid (z=lf (cd x b g) x.hs.n (max 0 n) x.hs.z/\q=ky (cd x b g) (max 0 n) (l7 x)):=HM.out.done hi hd;obtain⟨u,-,-,P,-,-,-,-,-,-,-⟩:=S.out.boxed;have cp:wr.cell? ⟨J,2,none⟩=some (.slice x.hs.a x.hs.n x.hs.c):=P;have bp:Hid (Calls prog 59 #[.slice x.hs.a x.hs.n x.hs.c,.func (.func 115) #[] #[]] wr λe w'=>e = .returned (.slice x.hs.a (cq (cd x b g) x.hs (max 0 n)).n x.hs.c)/\ai A w' (withHolds (mr x q) (cq (cd x b g) x.hs (max 0 n)))/\Below A wr w'/\(∀q t m g,t≠103->Blk wr q t m g->Blk w' q t m g)/\KeepsOthers wr w'):=by
   have hz:=HD.out.1;have hD:=Wc 115 #[] sd A (withHolds (mr x q) ⟨x.hs.a,x.hs.n,x.hs.c,z⟩) wr S.out.le S.out.own (enters_of func115 (by kernel_rfl) rfl) (λy wz _=>by rw[Array.append_empty];exact Pn y wz);rw[hz] at hD;exact hD
  clear P;by_cases fp:i=0
  .have q1:¬(0:Int)<=(i:Int)-1:=by omega
   go_wp2_with fail;refine bp.out.mono ?_;rintro e w2 ⟨rfl,bg,bi,av,bf⟩;have HN:Hid (gx A J r W0 (withHolds (mr x (ky (cd x b g) (max 0 n) (l7 x))) (cq (cd x b g) x.hs (max 0 n))) b g (ky (cd x b g) (max 0 n) (l7 x)) (w2.setCell ⟨J,2,none⟩ (.slice x.hs.a (cq (cd x b g) x.hs (max 0 n)).n x.hs.c))):=by
    have h:=S.out.newHolds (m:=cq (cd x b g) x.hs (max 0 n)) bg bi av bf;rw[HD.out.2] at h;exact h
   have bx:=av _ _ _ _ (by decide) S.out.box;have y1:=bx.lt;have y2:=bx.frozen 2;have y3:=bx.k 2;clear bg bi av bf bx bp S HM u cp;go_wp2_with fail
   go_end0
   exact⟨rfl,HN.out⟩
  have fk:m<=0:=by omega
  have q1:(0:Int)<=(i:Int)-1:=by omega
  have q2:¬0<m:=by omega
  go_wp2_with fail;refine bp.out.mono ?_;rintro e w2 ⟨rfl,bg,bi,av,bf⟩;have HN:Hid (gx A J r W0 (withHolds (mr x (ky (cd x b g) (max 0 n) (l7 x))) (cq (cd x b g) x.hs (max 0 n))) b g (ky (cd x b g) (max 0 n) (l7 x)) (w2.setCell ⟨J,2,none⟩ (.slice x.hs.a (cq (cd x b g) x.hs (max 0 n)).n x.hs.c))):=by
   have h:=S.out.newHolds (m:=cq (cd x b g) x.hs (max 0 n)) bg bi av bf;rw[HD.out.2] at h;exact h
  have bx:=av _ _ _ _ (by decide) S.out.box;have y1:=bx.lt;have y2:=bx.frozen 2;have y3:=bx.k 2;clear bg bi av bf bx bp S HM u cp;go_wp2_with fail
  go_end0
  exact⟨rfl,HN.out⟩
 obtain⟨k,rfl⟩:∃k,i=k+1:=⟨i-1,by omega⟩;have hk:k<x.hs.n:=by omega
 have q1:(0:Int)<=(k:Int):=by omega
 have q2:0<m:=by omega
 have q3:(k:Int)<(x.hs.n:Int):=by omega
 have e1:(((k+1:Nat):Int)-1)=(k:Int):=by omega
 rw[e1];obtain⟨cr,cs,dl⟩:=HM.out.key k hk;obtain⟨a1,a2,a3⟩:=iu (HF.out.home k hk);obtain⟨o,ho⟩:=Qzz a1.1;obtain⟨l,hl⟩:=Qzz a2.1;rw[ho] at a1 a2;rw[hl] at a2;have on:o<x.os.n:=a1.2;have ln:l<(x.os.z o).ls.n:=a2.2;have o4:o<4:=by have:=HF.out.os4;omega
 have l3:l<3:=by have:=(HF.out.lns o on).2;omega
 have X:=qa2 (cr.trans ho) (cs.trans hl);have cm:Hid (jo x (z k)=((x.os.z o).ls.z l).o):=by show jo x (z k)=_;unfold jo;rw[X.out.1,X.out.2];rfl
 obtain⟨G,hG,di,-⟩:=S.out.own.hs.2.2.2 (show 0<x.hs.n by omega);obtain⟨gO,B,hO,-,-,-,hB,-,-,nc,cc,-⟩:=S.out.own.lineCell (o:=o) (l:=l) on ln;have L:=qa3 hG hO hB;have fj:(x.os.z o).ls.n<=(x.os.z o).ls.c:=nc;have ef:(x.os.z o).ls.c<=maxLen:=cc;have oc:x.os.c<=maxLen:=S.out.own.os.cap;have fo:x.os.n<=x.os.c:=S.out.own.os.le;unfold maxLen at ef oc;have zp:=HM.out.pos k hk;have bl0:=dz (HF.out.line o on l ln);have qo:=HM.out.q0 o l;have qle:=Int.le_trans (HM.out.qle hi o l) (HQ.out o l);have s0:(0:Int)<=(o:Int):=by omega
 have s1:(o:Int)<(x.os.n:Int):=by omega
 have s2:(0:Int)<=(l:Int):=by omega
 have s3:(l:Int)<((x.os.z o).ls.n:Int):=by omega
 clear cr cs dl a1 a2 a3 ho hl hG hO hB nc cc hd e1 di;obtain⟨u,u1,P,u7,u8,u9,gl,W,U,T,z3,ol,c4,bl,Q,Y,fG,fB,ne⟩:=wu S.out hk X.out.1 X.out.2 on ln L.out.1 L.out.2.1 L.out.2.2;have e1:(((k+1:Nat):Int)-1)=(k:Int):=by omega
 go_wp2_with fail;clear u u1 P u7 u8 u9 gl W U T z3 ol c4 bl Q Y fG fB ne;obtain⟨u,u1,P,u7,u8,u9,gl,W,U,T,z3,ol,c4,bl,Q,Y,fG,fB,ne⟩:=wu S.out hk X.out.1 X.out.2 on ln L.out.1 L.out.2.1 L.out.2.2;clear fG fB ne z3 Y u9;have aw:=Qqq u1;have au:=Qqq P;have a5:=Qqq u7;have a0:=Qqq u8;have ar:=Qqq W;have ba:=Qqq U;have aq:=Qqq T;have a9:=Qqq c4;have a8:=Qqq Q;refine Qxq (by kernel_rfl) (by kernel_rfl) ?_
 repeat(go_big_quiet_step(fail))
 refine Qqz ?_;intro _ a4;obtain⟨⟨dq,M⟩,ae⟩:=a4;subst ae;have ah:Hid (gx A J r W0 (withHolds (mr x q) ⟨x.hs.a,x.hs.n,x.hs.c,z⟩) b g q (grow (redrawn wr dq) M)):=S.out.below (Qxx wr dq M);clear aw au a5 a0 ar ba aq a9 a8 u u1 P u7 u8 gl W U T ol c4 bl Q S
 generalize grow (redrawn wr dq) M=wa at *
 generalize hZB:(z k).b=ZB at *
 generalize hZO:((x.os.z o).ls.z l).o=ZO at *
 have HZ:=qa2 hZB cm.out;have b4:=hid hZO;clear hZB hZO;cases h1:(ZB==(b:Int))
 .have HN:Hid (vm x b g n k m z q):=HM.out.miss (λe=>by rw[HZ.out.1] at e;simp at h1;omega);have da:(ZB !=(b:Int))=true:=by simp at h1 ⊢;omega
  go_wp2_with fail;obtain⟨u,u1,P,u7,u8,u9,gl,W,U,T,z3,ol,c4,bl,Q,Y,fG,fB,ne⟩:=wu ah.out hk X.out.1 X.out.2 on ln L.out.1 L.out.2.1 L.out.2.2;clear fG fB ne z3 Y u9;rw[HZ.out.1] at T;rw[b4.out] at Q;have aw:=Qqq u1;have au:=Qqq P;have a5:=Qqq u7;have a0:=Qqq u8;have ar:=Qqq W;have ba:=Qqq U;have aq:=Qqq T;have a9:=Qqq c4;have a8:=Qqq Q;refine Qxq (by kernel_rfl) (by kernel_rfl) ?_
  repeat(go_big_quiet_step(fail))
  refine Qqz ?_;intro _ a4;obtain⟨⟨dq,M⟩,ae⟩:=a4;subst ae;have ax:Hid (gx A J r W0 (withHolds (mr x q) ⟨x.hs.a,x.hs.n,x.hs.c,z⟩) b g q (grow (redrawn wa dq) M)):=ah.out.below (Qxx wa dq M);clear aw au a5 a0 ar ba aq a9 a8 u u1 P u7 u8 gl W U T ol c4 bl Q ah
  generalize grow (redrawn wa dq) M=wz at *
  go_wp2_with fail;go_roundw
  case rel=>exact⟨k,m,z,q,by omega,by go_num,rfl,ax,HN⟩
  case measure=>simp[intOf]
 have da:(ZB !=(b:Int))=false:=by simp at h1 ⊢;omega
 cases h2:(ZO==(g:Int))
 .have HN:Hid (vm x b g n k m z q):=HM.out.miss (λe=>by rw[HZ.out.2] at e;simp at h2;omega);have ed:(ZO !=(g:Int))=true:=by simp at h2 ⊢;omega
  go_wp2_with fail;obtain⟨u,u1,P,u7,u8,u9,gl,W,U,T,z3,ol,c4,bl,Q,Y,fG,fB,ne⟩:=wu ah.out hk X.out.1 X.out.2 on ln L.out.1 L.out.2.1 L.out.2.2;clear fG fB ne z3 Y u9;rw[HZ.out.1] at T;rw[b4.out] at Q;have aw:=Qqq u1;have au:=Qqq P;have a5:=Qqq u7;have a0:=Qqq u8;have ar:=Qqq W;have ba:=Qqq U;have aq:=Qqq T;have a9:=Qqq c4;have a8:=Qqq Q;refine Qxq (by kernel_rfl) (by kernel_rfl) ?_
  repeat(go_big_quiet_step(fail))
  refine Qqz ?_;intro _ a4;obtain⟨⟨dq,M⟩,ae⟩:=a4;subst ae;have ax:Hid (gx A J r W0 (withHolds (mr x q) ⟨x.hs.a,x.hs.n,x.hs.c,z⟩) b g q (grow (redrawn wa dq) M)):=ah.out.below (Qxx wa dq M);clear aw au a5 a0 ar ba aq a9 a8 u u1 P u7 u8 gl W U T ol c4 bl Q ah
  generalize grow (redrawn wa dq) M=wz at *
  go_wp2_with fail;go_roundw
  case rel=>exact⟨k,m,z,q,by omega,by go_num,rfl,ax,HN⟩
  case measure=>simp[intOf]
 have ed:(ZO !=(g:Int))=false:=by simp at h2 ⊢;omega
 have HN:Hid (vm x b g n k (m-min m (z k).n) (gz z k (min m (z k).n)) (qx q o l (q o l+min m (z k).n))):=HM.out.hit hk q2 (by rw[HZ.out.1];simpa using h1) (by rw[HZ.out.2];simpa using h2) X.out.1 X.out.2;go_wp2_with fail;obtain⟨u,u1,P,u7,u8,u9,gl,W,U,T,z3,ol,c4,bl,Q,Y,fG,fB,ne⟩:=wu ah.out hk X.out.1 X.out.2 on ln L.out.1 L.out.2.1 L.out.2.2;clear fG fB ne z3 Y u9;rw[HZ.out.1] at T;rw[b4.out] at Q;have aw:=Qqq u1;have au:=Qqq P;have a5:=Qqq u7;have a0:=Qqq u8;have ar:=Qqq W;have ba:=Qqq U;have aq:=Qqq T;have a9:=Qqq c4;have a8:=Qqq Q;refine Qxq (by kernel_rfl) (by kernel_rfl) ?_
 repeat(go_big_quiet_step(fail))
 refine Qqz ?_;intro _ a4;obtain⟨⟨dq,M⟩,ae⟩:=a4;subst ae;have ax:Hid (gx A J r W0 (withHolds (mr x q) ⟨x.hs.a,x.hs.n,x.hs.c,z⟩) b g q (grow (redrawn wa dq) M)):=ah.out.below (Qxx wa dq M);clear aw au a5 a0 ar ba aq a9 a8 u u1 P u7 u8 gl W U T ol c4 bl Q ah
 generalize grow (redrawn wa dq) M=wz at *
 obtain⟨u,u1,P,u7,u8,u9,gl,W,U,T,z3,ol,c4,bl,Q,Y,fG,fB,ne⟩:=wu ax.out hk X.out.1 X.out.2 on ln L.out.1 L.out.2.1 L.out.2.2;have f1:=fG (k*4+3);have f2:=fB (l*4+3);have ne2:¬B=G:=λe=>ne e.symm;have bo:Hid (gx A J r W0 (withHolds (mr x (qx q o l (q o l+min m (z k).n))) ⟨x.hs.a,x.hs.n,x.hs.c,gz z k (min m (z k).n)⟩) b g q ((wz.setCell ⟨G,k*4+3,none⟩ (.int .i64 ((z k).n-min m (z k).n))).setCell ⟨B,l*4+3,none⟩ (.int .i64 (((x.os.z o).ls.z l).n+q o l+min m (z k).n)))):=by
  have h1:=ax.out.holdN (i:=k) (G:=G) hk L.out.1 (min m (z k).n);have h2:=h1.back (o:=o) (B:=B) on L.out.2.2 l (((x.os.z o).ls.z l).n+q o l+min m (z k).n);have e:setLine (withHolds (withHolds (mr x q) ⟨x.hs.a,x.hs.n,x.hs.c,z⟩) (Bo ⟨x.hs.a,x.hs.n,x.hs.c,z⟩ k (min m (z k).n))) o l 3 (((x.os.z o).ls.z l).n+q o l+min m (z k).n)=withHolds (setLine (mr x q) o l 3 (((x.os.z o).ls.z l).n+q o l+min m (z k).n)) ⟨x.hs.a,x.hs.n,x.hs.c,gz z k (min m (z k).n)⟩:=rfl;rw[X4] at e;rw[<-e];exact h2
 have b2:Hid ((gz z k (min m (z k).n) k).o=(o:Int)/\(gz z k (min m (z k).n) k).l=(l:Int)):=by
  have e:gz z k (min m (z k).n) k=i5 (z k) (min m (z k).n):=if_pos rfl;show(gz z k (min m (z k).n) k).o=(o:Int)/\(gz z k (min m (z k).n) k).l=(l:Int);rw[e];exact X.out
 obtain⟨X3,bk⟩:∃X3,withHolds (mr x (qx q o l (q o l+min m (z k).n))) ⟨x.hs.a,x.hs.n,x.hs.c,gz z k (min m (z k).n)⟩=X3:=⟨_,rfl⟩;have ci:=hid bk;have b6:Hid (∀F q',gx A J r W0 X3 b g q' F->J<F.heap.size/\F.cell? ⟨J,9,none⟩=some (.map (some r))/\G<F.heap.size/\F.cell? ⟨G,k*4,none⟩=some (.int .i64 (o:Int))/\F.cell? ⟨G,k*4+1,none⟩=some (.int .i64 (l:Int))):=λF q' hc=>by
  rw[<-bk] at hc;obtain⟨u,u1,P,u7,u8,u9,gl,W,U,-⟩:=wu (z:=gz z k (min m (z k).n)) hc hk b2.out.1 b2.out.2 on ln L.out.1 L.out.2.1 L.out.2.2;exact⟨u,u9,gl,W,U⟩
 rw[bk] at bo;clear ax fG fB HM cm bk b2;have qB : -9223372036854775808<=q o l+min m (z k).n/\q o l+min m (z k).n<=9223372036854775807:=by omega
 obtain⟨MM,du⟩:∃MM,min m (z k).n=MM:=⟨_,rfl⟩;rw[du] at bo ci HN qB;have fq:0<=MM/\MM<=200/\MM<=m/\MM<=(z k).n:=by omega
 generalize (z k).n=ZN at *
 generalize ((x.os.z o).ls.z l).n=LN at *
 go_wp2_with fail;obtain⟨w3,ch⟩:∃w3,((wz.setCell ⟨G,k*4+3,none⟩ (.int .i64 (ZN-MM))).setCell ⟨B,l*4+3,none⟩ (.int .i64 (LN+q o l+MM)))=w3:=⟨_,rfl⟩;rw[ch] at bo ⊢;clear ch u u1 P u7 u8 u9 gl W U T z3 ol c4 bl Q Y f1 f2 ne ne2;have c5:Hid (gx A J r W0 X3 b g q w3.drew):=bo.out.below (brf.drew);refine Pk [0,1,2,3,4,5,6,7,8,9,10,11,12,13,14,15,16,17,18] (by kernel_rfl) (by kernel_rfl) (by kernel_rfl) (by kernel_rfl) (te A J r W0 X3 b g q o l G k MM) ?zei (Qjx ⟨?ze0,Qjx ⟨?ze1,Qjx ⟨?ze2,Qjx ⟨?ze3,Qjx ⟨?ze4,Qjx ⟨?ze5,Qjx ⟨?ze6,Qjx ⟨?ze7,Qjx ⟨?ze8,Qjx ⟨?ze9,Qjx ⟨?ze10,Qjx ⟨?ze11,Qjx ⟨?ze12,Qjx ⟨?ze13,Qjx ⟨?ze14,Qjx ⟨?ze15,Qjx ⟨?ze16,Qjx ⟨?ze17,Qjx ⟨?ze18,Qjq _⟩⟩⟩⟩⟩⟩⟩⟩⟩⟩⟩⟩⟩⟩⟩⟩⟩⟩⟩) ?zed
 case zei =>
  intro D V hd;have f:∀j,j∈[0,1,2,3,4,5,6,7,8,9,10,11,12,13,14,15,16,17,18]->¬D j=true:=λj hj h=>by rw[hd j hj] at h;cases h
  exact⟨λj hj h=>absurd h (f j (by simp only[List.mem_cons,List.not_mem_nil,or_false];omega)),λ_=>c5.out,λh=>absurd h (f 18 (by simp)),λh=>absurd h (f 16 (by simp)),λh=>absurd h (f 18 (by simp)),λh=>absurd h (f 15 (by simp)),λh=>absurd h (f 17 (by simp))⟩
 case ze0 =>
  intro D V F K H hd d E;have s:=hid d;clear d;refine ay 0 rfl ?_;simp only[ap,bu,Qvz,Qwq,Qvx,Act.put,Qvq,Qwx,Qwz] at E ⊢;go_wp2_with fail;exact s.out.put (i:=0) (by decide) rfl (λh=>absurd h (by decide))
 case ze1 =>
  intro D V F K H hd d E;have Q:D 0=true:=hd 0 (Qjz (by kernel_rfl)) (by simp);have e0:V 0 = .pointer (some ⟨J,0,none⟩):=d.val 0 (by decide) Q;have s:=hid d;clear d;refine ay 1 rfl ?_;simp only[ap,bu,Qvz,Qwq,Qvx,Act.put,Qvq,Qwx,Qwz,e0] at E ⊢;go_wp2_with fail;exact s.out.put (i:=1) (by decide) rfl (λh=>absurd h (by decide))
 case ze2 =>
  intro D V F K H hd d E;have d1:D 1=true:=hd 1 (Qjz (by kernel_rfl)) (by simp);have e1:V 1 = .pointer (some ⟨J,0,none⟩):=d.val 1 (by decide) d1;have s:=hid d;clear d;refine ay 2 rfl ?_;simp only[ap,bu,Qvz,Qwq,Qvx,Act.put,Qvq,Qwx,Qwz,e1] at E ⊢;go_wp2_with fail;exact s.out.put (i:=2) (by decide) rfl (λh=>absurd h (by decide))
 case ze3 =>
  intro D V F K H hd d E;have d2:D 2=true:=hd 2 (Qjz (by kernel_rfl)) (by simp);have e2:V 2 = .pointer (some ⟨J,9,none⟩):=d.val 2 (by decide) d2;have s:=hid d;obtain⟨q',al⟩:=d.any;obtain⟨y1,y2,y3,y4,y5⟩:=b6.out F q' al;clear al;clear d;refine ay 3 rfl ?_;simp only[ap,bu,Qvz,Qwq,Qvx,Act.put,Qvq,Qwx,Qwz,e2] at E ⊢;go_wp2_with fail;exact s.out.put (i:=3) (by decide) rfl (λh=>absurd h (by decide))
 case ze4 =>
  intro D V F K H hd d E;have s:=hid d;clear d;refine ay 4 rfl ?_;simp only[ap,bu,Qvz,Qwq,Qvx,Act.put,Qvq,Qwx,Qwz] at E ⊢;go_wp2_with fail;exact s.out.put (i:=4) (by decide) rfl (λh=>absurd h (by decide))
 case ze5 =>
  intro D V F K H hd d E;have d4:D 4=true:=hd 4 (Qjz (by kernel_rfl)) (by simp);have e4:V 4 = .pointer (some ⟨G,k*4,none⟩):=d.val 4 (by decide) d4;have s:=hid d;clear d;refine ay 5 rfl ?_;simp only[ap,bu,Qvz,Qwq,Qvx,Act.put,Qvq,Qwx,Qwz,e4] at E ⊢;go_wp2_with fail;exact s.out.put (i:=5) (by decide) rfl (λh=>absurd h (by decide))
 case ze6 =>
  intro D V F K H hd d E;have d5:D 5=true:=hd 5 (Qjz (by kernel_rfl)) (by simp);have e5:V 5 = .pointer (some ⟨G,k*4,none⟩):=d.val 5 (by decide) d5;have s:=hid d;clear d;refine ay 6 rfl ?_;simp only[ap,bu,Qvz,Qwq,Qvx,Act.put,Qvq,Qwx,Qwz,e5] at E ⊢;go_wp2_with fail;exact s.out.put (i:=6) (by decide) rfl (λh=>absurd h (by decide))
 case ze7 =>
  intro D V F K H hd d E;have d6:D 6=true:=hd 6 (Qjz (by kernel_rfl)) (by simp);have e6:V 6 = .pointer (some ⟨G,k*4,none⟩):=d.val 6 (by decide) d6;have s:=hid d;obtain⟨q',al⟩:=d.any;obtain⟨y1,y2,y3,y4,y5⟩:=b6.out F q' al;clear al;clear d;refine ay 7 rfl ?_;simp only[ap,bu,Qvz,Qwq,Qvx,Act.put,Qvq,Qwx,Qwz,e6] at E ⊢;go_wp2_with fail;exact s.out.put (i:=7) (by decide) rfl (λh=>absurd h (by decide))
 case ze8 =>
  intro D V F K H hd d E;have s:=hid d;clear d;refine ay 8 rfl ?_;simp only[ap,bu,Qvz,Qwq,Qvx,Act.put,Qvq,Qwx,Qwz] at E ⊢;go_wp2_with fail;exact s.out.put (i:=8) (by decide) rfl (λh=>absurd h (by decide))
 case ze9 =>
  intro D V F K H hd d E;have d8:D 8=true:=hd 8 (Qjz (by kernel_rfl)) (by simp);have e8:V 8 = .pointer (some ⟨G,k*4,none⟩):=d.val 8 (by decide) d8;have s:=hid d;clear d;refine ay 9 rfl ?_;simp only[ap,bu,Qvz,Qwq,Qvx,Act.put,Qvq,Qwx,Qwz,e8] at E ⊢;go_wp2_with fail;exact s.out.put (i:=9) (by decide) rfl (λh=>absurd h (by decide))
 case ze10 =>
  intro D V F K H hd d E;have d9:D 9=true:=hd 9 (Qjz (by kernel_rfl)) (by simp);have e9:V 9 = .pointer (some ⟨G,k*4,none⟩):=d.val 9 (by decide) d9;have s:=hid d;clear d;refine ay 10 rfl ?_;simp only[ap,bu,Qvz,Qwq,Qvx,Act.put,Qvq,Qwx,Qwz,e9] at E ⊢;go_wp2_with fail;exact s.out.put (i:=10) (by decide) rfl (λh=>absurd h (by decide))
 case ze11 =>
  intro D V F K H hd d E;have c7:D 10=true:=hd 10 (Qjz (by kernel_rfl)) (by simp);have dv:V 10 = .pointer (some ⟨G,k*4+1,none⟩):=d.val 10 (by decide) c7;have s:=hid d;obtain⟨q',al⟩:=d.any;obtain⟨y1,y2,y3,y4,y5⟩:=b6.out F q' al;clear al;clear d;refine ay 11 rfl ?_;simp only[ap,bu,Qvz,Qwq,Qvx,Act.put,Qvq,Qwx,Qwz,dv] at E ⊢;go_wp2_with fail;exact s.out.put (i:=11) (by decide) rfl (λh=>absurd h (by decide))
 case ze12 =>
  intro D V F K H hd d E;have d7:D 7=true:=hd 7 (Qjz (by kernel_rfl)) (by simp);have e7:V 7 = .int .i64 (o:Int):=d.val 7 (by decide) d7;have dr:D 11=true:=hd 11 (Qjz (by kernel_rfl)) (by simp);have dx:V 11 = .int .i64 (l:Int):=d.val 11 (by decide) dr;have s:=hid d;clear d;refine ay 12 rfl ?_;simp only[ap,bu,Qvz,Qwq,Qvx,Act.put,Qvq,Qwx,Qwz,e7,dx] at E ⊢;go_wp2_with fail;exact s.out.put (i:=12) (by decide) rfl (λh=>absurd h (by decide))
 case ze13 =>
  intro D V F K H hd d E;have Y:D 3=true:=hd 3 (Qjz (by kernel_rfl)) (by simp);have e3:V 3 = .map (some r):=d.val 3 (by decide) Y;have b5:D 12=true:=hd 12 (Qjz (by kernel_rfl)) (by simp);have b3:V 12 = .agg #[.int .i64 (o:Int),.int .i64 (l:Int)]:=d.val 12 (by decide) b5;have s:=hid d;have lk:=Px (d.cut (d.not13 H)).map o4 l3;unfold mv at lk;clear d;refine ay 13 rfl ?_;simp only[ap,bu,Qvz,Qwq,Qvx,Act.put,Qvq,Qwx,Qwz,e3,b3] at E ⊢;go_wp2_with fail;exact s.out.put (i:=13) (by decide) rfl (λh=>absurd h (by decide))
 case ze14 =>
  intro D V F K H hd d E;have s:=hid d;clear d;refine ay 14 rfl ?_;simp only[ap,bu,Qvz,Qwq,Qvx,Act.put,Qvq,Qwx,Qwz] at E ⊢;go_wp2_with fail;exact s.out.put (i:=14) (by decide) rfl (λh=>absurd h (by decide))
 case ze15 =>
  intro D V F K H hd d E;have cl:D 13=true:=hd 13 (Qjz (by kernel_rfl)) (by simp);have dj:V 13 = .int .i64 (q o l):=d.val 13 (by decide) cl;have dd:D 14=true:=hd 14 (Qjz (by kernel_rfl)) (by simp);have dg:V 14 = .int .i64 MM:=d.val 14 (by decide) dd;have s:=hid d;clear d;have fn:=qB;refine ay 15 rfl ?_;simp only[ap,bu,Qvz,Qwq,Qvx,Act.put,Qvq,Qwx,Qwz,dj,dg] at E ⊢;go_wp2_with fail;exact s.out.put (i:=15) (by decide) rfl (λ_=>cl)
 case ze16 =>
  intro D V F K H hd d E;have Y:D 3=true:=hd 3 (Qjz (by kernel_rfl)) (by simp);have e3:V 3 = .map (some r):=d.val 3 (by decide) Y;have b5:D 12=true:=hd 12 (Qjz (by kernel_rfl)) (by simp);have b3:V 12 = .agg #[.int .i64 (o:Int),.int .i64 (l:Int)]:=d.val 12 (by decide) b5;have s:=hid d;obtain⟨v0,st,w1,ee,cj,ct,cf⟩:=Vt (d.cut (d.not16 H).1).map o4 l3;unfold mv at ee;have bw:Hid (qp r F w1/\km w1 r q/\∀v:Int,∃w2,(Instr.entryStore 116 (.map (some r)) (goInt st) (.int .i64 v)).run prog w1 = .ok () w2/\km w2 r (qx q o l v)/\qp r F w2):=⟨cj,ct,cf⟩;clear cj ct cf;clear d;refine ay 16 rfl ?_;simp only[ap,bu,Qvz,Qwq,Qvx,Act.put,Qvq,Qwx,Qwz,e3,b3] at E ⊢;go_wp2_with fail;exact s.out.entry H bw.out.2.1 bw.out.1 bw.out.2.2
 case ze17 =>
  intro D V F K H hd d E;have cg:D 16=true:=hd 16 (Qjz (by kernel_rfl)) (by simp);have s:=hid d;obtain⟨v0,st,bn,-,-⟩:=d.ent cg (d.not17 H);have c1:=hid bn;clear d;refine ay 17 rfl ?_;simp only[ap,bu,Qvz,Qwq,Qvx,Act.put,Qvq,Qwx,Qwz,bn] at E ⊢;go_wp2_with fail;exact s.out.extract H cg c1.out
 case ze18 =>
  intro D V F K H hd d E;have Y:D 3=true:=hd 3 (Qjz (by kernel_rfl)) (by simp);have e3:V 3 = .map (some r):=d.val 3 (by decide) Y;have cu:D 15=true:=hd 15 (Qjz (by kernel_rfl)) (by simp);have dh:V 15 = .int .i64 (q o l+MM):=d.val 15 (by decide) cu;have b1:D 17=true:=hd 17 (Qjz (by kernel_rfl)) (by simp);have s:=hid d;obtain⟨v0,st,bn,bm,es⟩:=d.ent (d.c17 b1) H;have bm:=bm b1;obtain⟨w2,de,ck,cn⟩:=es (q o l+MM);have co:=qa2 ck cn;clear es ck cn bn;unfold goInt at de bm;clear d;refine ay 18 rfl ?_;simp only[ap,bu,Qvz,Qwq,Qvx,Act.put,Qvq,Qwx,Qwz,e3,dh,bm] at E ⊢;go_wp2_with fail;exact E undef _ (s.out.store H cu b1 co.out.1 co.out.2 undef)
 case zed =>
  intro D V F hd d;have dw:Hid (gx A J r W0 X3 b g (qx q o l (q o l+MM)) F):=d.fin (hd 18 (by simp));clear d hd;simp only[ap,bu,Qvz,Qwq,Qvx,Act.put,Qvq,Qwx,Qwz];refine NoPanic.normal ?_;go_wp2_with fail;go_roundw
  case rel=>exact⟨k,m-MM,gz z k MM,qx q o l (q o l+MM),by omega,by go_num,by go_num,by rw[ci.out];exact dw,HN⟩
  case measure=>simp[intOf]
def Kr(p:Pl)(x0:St)(b:Nat)(q:Int->Int->Int)(i:Nat)(cur:St):Prop:=ig p b (λi j=>q i j) (vy x0) x0 i cur
def tt(p:Pl)(x0:St)(b:Nat)(q:Int->Int->Int)(i j:Nat)(cur:St):Prop:=∃y,Kr p x0 b q i y/\kt p b (λi j=>q i j) i y j cur
section
variable {p:Pl} {x0 cur x:St} {b:Nat} {q:Int->Int->Int} {i j:Nat}
theorem tt.next(h:tt p x0 b q i (x0.os.z i).ls.n cur):Kr p x0 b q (i+1) cur:=h
theorem Kr.row(h:Kr p x0 b q i cur):tt p x0 b q i 0 cur:=⟨cur,h,rfl⟩
theorem tt.pos(Q:QIn p b (λi j=>q i j) x0)(h:tt p x0 b q i j cur)(hi:i<x0.os.n)(c:j<=(x0.os.z i).ls.n):Pos p b (λi j=>q i j) x0 i j cur:=by
 obtain⟨y,d,a⟩:=h;exact kt.pos Q (ig.pos Q (λ_ _=>rfl) (Nat.le_of_lt hi) d) hi c a
theorem tt.step(h:tt p x0 b q i j cur)(T:lg p b cur i j (q i j) x):tt p x0 b q i (j+1) x:=by
 obtain⟨y,c,a⟩:=h;exact⟨y,c,cur,a,T⟩
theorem tt.skip(Q:QIn p b (λi j=>q i j) x0)(h:tt p x0 b q i j cur)(hi:i<x0.os.n)(a:j<(x0.os.z i).ls.n)(c:q i j=0):tt p x0 b q i (j+1) cur:=by
 have I:=(h.pos Q hi (Nat.le_of_lt a)).stepIn Q hi a;have T:=I.tki;have d:iy p cur i j (q i j):=T;rw[c] at d;refine h.step ?_;rw[c];exact lg.skip d
end
end Go.Proofs.YtbcacebifpagpafGreat
