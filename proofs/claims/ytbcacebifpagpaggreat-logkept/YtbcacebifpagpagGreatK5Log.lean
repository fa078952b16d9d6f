/- Texts that were built one behind the other, joined; what is not reached is left out. -/
import Derived.Test.YtbcacebifpagpagGreatK4Log
import Derived.RangeFuncBox
import Derived.RangeFuncLeaves
import Derived.Shelf.Abstract
import Derived.WalkKit
import Derived.OwnWalkIn
import Derived.TacticsInMore
import Derived.LoopNIn
import Derived.LoopIn
import Derived.Maps.AppendAt
import Derived.RangeFuncNested
import Derived.ArgAppend
import Derived.Lib.QuietBelowIn
import Derived.Sort.BigQuietIn
import Derived.Scope
import Derived.Test.YtbcacebifpagpagGreatChecked
import Derived.WideKeyEntry
import Derived.DeepKeys5
import Derived.KernelRfl
import Derived.Below
set_option maxHeartbeats 8000000
set_option maxRecDepth 100000
set_option linter.unusedVariables false
namespace Go.Proofs.YtbcacebifpagpagGreat
variable{n b A g o l c i q j R L M:Nat}{w a d:World}{s x y u:St}{r W J D:Int}{e H:TypeId}{p:Pl}{z O:Nat->Hd}{f f':Nat->Value}{Q:Exit->Act->World->Prop}{v c1 c3 c2:Value}{xs:List Value}{U V:Hs}{X Y:Int->Int->Int}{P:Program}{h Z:Hd}{t:List UInt8}{E:Hd->Bool}{z' zs:Nat->Int}{S:World->Prop}{a1:Act}{K:Act->World->Prop}
open _root_.Go.Proofs.Tryz
open Go.RowKit Go.Shelf
attribute [local go_sem] Oper.semAt_some
theorem Wj(p:Pl)(f:Bool){k m:Nat}(h:k<=m):frL p f k <+: frL p f m:=by
 induction m with
 | zero=>rw[show k=0 by omega];exact List.prefix_refl _
 | succ m ih =>
  by_cases b:k=m+1
  .rw[b];exact List.prefix_refl _
  refine(ih (by omega)).trans ?_;by_cases a:(p.zb m).front=f
  .rw[wo a];exact List.prefix_append _ _
  rw[xw a];exact List.prefix_refl _
def A9(n₀ Bf:Nat)(A B:World):Prop:=Below n₀ A B/\(∀v,A.cell? ⟨Bf,0,none⟩=some v->B.cell? ⟨Bf,0,none⟩=some v)
theorem Vv(F:Fence)(n:Nat)(h6:F.fn 149)(V:F.round=none)(hn:1<=n)(l M d g:Nat)(p:Pl)(f:Bool)(J T:List Int->World->Prop)
  (hY:∀pre x W,J pre W->pre.length<p.nb->YieldAt F (n-1) prog l #[.int .i64 x] W λe a =>
   (e = .returned (.bool true)/\J (pre++[x]) a/\A9 g d W a)\/(e = .returned (.bool false)/\T (pre++[x]) a))
  (W:World) (hJ:AbidesFrom W.heap.size J) (z:g<=W.heap.size) (ak:W.cell? ⟨M,0,none⟩=some (.slice p.ab p.nb p.cb)) (X:W.cell? ⟨d,0,none⟩=some (.bool f)) (aj:p.nb<=p.cb) (K:p.cb<=maxLen)
  (hL:∀a,Below g W a->tu a p.ab p.nb p.zb) (h0:J [] W) :
  CallsIn F n prog 149 #[.func (.yield l) #[] #[],.pointer (some ⟨M,0,none⟩),.pointer (some ⟨d,0,none⟩)] W λe a=>(∃v,e = .returned v) /\
   ((∃ys,ys=frL p f p.nb/\J ys a)\/(∃pre,pre <+: frL p f p.nb/\T pre a)):=by
 unfold maxLen at K;have hS:Hid (∀wr,Below g W wr->W.heap.size<=wr.heap.size):=λwr h=>h.size;have B:Hid (∀pre A o,J pre A->J pre (A.alloc o)):=λpre A o h=>hJ pre A (A.alloc o) none h (World.grownBy_alloc A o none) (λr e=>by cases e);refine callsIn_of_wp func149 rfl h6 ?_ V;simp only[ntmps149,List.size_toArray,List.length_cons,List.length_nil,Nat.reduceAdd,Nat.reduceSub,Array.replicate_succ,Array.replicate_zero,List.push_toArray,List.append_toArray,Xqx,Xqz]
 gi_wp2
 gi_loopw [9] (λi wr=>∃k:Nat,k<=p.nb/\i = .int .i64 k/\J (frL p f k) wr/\Below g W wr/\wr.cell? ⟨d,0,none⟩=some (.bool f)) (λi _=>p.nb-(intOf i).toNat)
 case atStart=>exact⟨0,Qxz _,rfl,h0,Below.refl _ _,X⟩
 obtain⟨k,hk,rfl,j,u,t⟩:=hrel;by_cases S:k<p.nb;rotate_left
 .gi_wp2
  go_end0
  have P:k=p.nb:=by omega
  subst P;exact⟨⟨_,rfl⟩,.inl ⟨_,rfl,j⟩⟩
 obtain⟨b,o,G,hb,z0,z1,z2,z3⟩:=hL _ u k S;have m1:(0:Int)<=(k:Int):=by omega
 have s:d<wr.heap.size:=World.block_lt_of_cell? wr _ t;have ai:=Kg p f k;rw[G];clear G;by_cases w:(p.zb k).front=f;rotate_left
 .have c:=B.out _ wr (.cells #[.bool (p.zb k).front,.int .i64 (p.zb k).room,.int .i64 (p.zb k).low,.int .i64 (p.zb k).high] 68) j;rw[<-xw w] at c;have y:=u.alloc (Qzx z (hS.out wr u)) (.cells #[.bool (p.zb k).front,.int .i64 (p.zb k).room,.int .i64 (p.zb k).low,.int .i64 (p.zb k).high] 68);have D:=(((Below.refl wr.heap.size wr).alloc nlr (.cells #[.bool (p.zb k).front,.int .i64 (p.zb k).room,.int .i64 (p.zb k).low,.int .i64 (p.zb k).high] 68)).cell (p:=⟨d,0,none⟩) s).trans t;have H:=qa3 c y D;clear c y D
  gi_wp2
  refine⟨λ_ h=>(by cases h),?_⟩
  gi_wp2
  go_roundw
  case rel=>exact⟨k+1,by omega,by go_num,H.out.1,H.out.2.1,H.out.2.2⟩
  case measure=>simp[intOf];omega
 rw[w] at z0;have c:=B.out _ wr (.cells #[.bool f,.int .i64 (p.zb k).room,.int .i64 (p.zb k).low,.int .i64 (p.zb k).high] 68) j;obtain⟨fn,tmps,assign,body,hy,L⟩:=hY (frL p f k) k _ c (by omega)
 gi_wp2
 refine L.mono ?_;rintro e U (⟨rfl,E,m⟩|⟨rfl,q⟩)
 .have Q:Below g W U:=(u.alloc (Qzx z (hS.out wr u)) _).trans m.1;have Y:U.cell? ⟨d,0,none⟩=some (.bool f):=m.2 _ ((((Below.refl wr.heap.size wr).alloc nlr _).cell (p:=⟨d,0,none⟩) s).trans t);rw[<-wo w] at E;clear m L
  gi_wp2
  go_roundw
  case rel=>exact⟨k+1,by omega,by go_num,E,Q,Y⟩
  case measure=>simp[intOf];omega
 rw[<-wo w] at q
 gi_wp2
 refine Xzq (results_none rfl _ _ _) rfl ?_;exact⟨⟨_,rfl⟩,.inr ⟨frL p f (k+1),Wj p f (by omega),q⟩⟩
attribute [local go_sem] Oper.semAt_some
theorem Hh{a:Nat}{A B C:World}(h:A9 a b A B)(k:A9 a b B C):A9 a b A C:=⟨h.1.trans k.1,λv c=>k.2 v (h.2 v c)⟩
theorem Hg{d:Nat}(j:d<=w.heap.size)(i:b<w.heap.size)(W:World)(l:Nat)(o a:Obj)(e:w.heap.size<=l)(h:W.heap[l]?=some o)(c:o.isCells=false)(f:o.isWalk=false):A9 d b W (W.putObj l a):=
 ⟨belowK_b j W l o a e h c f,λv g=>((belowK_b nlr W l o a e h c f).cell (p:=⟨b,0,none⟩) i).trans g⟩
theorem Ey(F:Fence)(n:Nat)(c:F.fn 102)(a:F.round=none)(p:Pl)(f:Bool)(w:World):
  CallsIn F n prog 102 #[p.val,.bool f] w λe b=>e = .returned (.func (.func 149) #[] #[.pointer (some ⟨w.heap.size,0,none⟩),.pointer (some ⟨w.heap.size+1,0,none⟩)])/\b=(w.alloc (.cells #[.slice p.ab p.nb p.cb,.slice p.sa p.ns p.cs] 25)).alloc (.cells #[.bool f] 4):=by
 unfold Pl.val;refine callsIn_of_wp func102 rfl c ?_ a;simp only[ntmps102,List.size_toArray,List.length_cons,List.length_nil,Nat.reduceAdd,Nat.reduceSub,Array.replicate_succ,Array.replicate_zero,List.push_toArray,List.append_toArray,Xqx,Xqz]
 gi_wp2
 go_ret;exact⟨rfl,rfl⟩
theorem Iz(F:Fence)(n:Nat)(u:F.fn 149)(q:F.round=none)(A:1<=n)(b a c:Nat)(p:Pl)(f:Bool)(w:World)(m:b<w.heap.size)(j:a<w.heap.size)(g:c<=w.heap.size)
  (r:w.cell? ⟨b,0,none⟩=some (.slice p.ab p.nb p.cb)) (o:w.cell? ⟨a,0,none⟩=some (.bool f)) (k:p.nb<=p.cb) (i:p.cb<=maxLen) (t:∀d,Below c w d->tu d p.ab p.nb p.zb) :
  SeqStopsK F n prog 149 #[.pointer (some ⟨b,0,none⟩),.pointer (some ⟨a,0,none⟩)] (λx:Int=>#[Value.int .i64 x]) (A9 c a) (λys=>ys=frL p f p.nb) (λpre=>pre <+: frL p f p.nb) p.nb w:=λl J v W e y _ z s =>
 Vv F n u q A l b a c p f J v z W y (Qzx g e.size) ((e.cell (p:=⟨b,0,none⟩) m).trans r) ((e.cell (p:=⟨a,0,none⟩) j).trans o) k i (λd h=>t d ((e.mono g).trans h)) s
attribute [local go_sem] Oper.semAt_some
theorem Vp(p:Pl)(w:World)(hp:p.At w):
  Calls prog 142 #[p.val] w λe w'=>∃v,e = .returned (.tuple #[v,.int .i64 (et p)])/\w'.ownsRow w.heap.size 3 1 v (Xv p).length ((Xv p).map (Value.int .i64))/\Below w.heap.size w w':=by
 have leb:=hp.leb;have V:=hp.capb;have G:Below w.heap.size w (w.alloc (.cells #[.slice p.ab p.nb p.cb,.slice p.sa p.ns p.cs] 25)):=(Below.refl w.heap.size w).alloc nlr _;obtain⟨i1,hj,ah,ai,ae⟩:=info_parts Du;refine(callsIn_wide (n:=5)).1 ?_;refine callsIn_of_wp_marks func142 rfl trivial ?_ rfl;simp only[Pl.val,ntmps142,List.size_toArray,List.length_cons,List.length_nil,Nat.reduceAdd,Nat.reduceSub,Array.replicate_succ,Array.replicate_zero,List.push_toArray,List.append_toArray,Xqx,Xqz];by_cases h0:et p=0;rotate_left
 .gi_wp2_with(refine⟨trivial,?_⟩;gi_at_call 61;refine(callsIn_wide.2 (Aa p _ (hp.below G))).mono ?_;rintro e E ⟨rfl,X⟩)
  rw[ac1 h0];exact⟨_,results_tmp2 rfl _ _ _,_,rfl,World.ownsRow_nil _ _ _ _,G.trans (X.mono (by simp))⟩
 have HC:Calls prog 61 #[p.val] (w.alloc (.cells #[.slice p.ab p.nb p.cb,.slice p.sa p.ns p.cs] 25)) λe w'=>e = .returned (.int .i64 0)/\Below (w.heap.size+1) (w.alloc (.cells #[.slice p.ab p.nb p.cb,.slice p.sa p.ns p.cs] 25)) w':=by
  have:=Aa p _ (hp.below G);rw[h0,World.size_alloc] at this;exact this
 have R:=Jz h0;have bn:=R.nb6;have H0:=hid h0;clear h0 R
 gi_wp2_with(first
  | (refine⟨trivial,?_⟩;gi_at_call 61;refine(callsIn_wide.2 HC).mono ?_;rintro e E ⟨rfl,X⟩;have a9:=X.size;have c0:E.cell? ⟨w.heap.size,0,none⟩=some (.slice p.ab p.nb p.cb):=(X.cell (p:=⟨w.heap.size,0,none⟩) (by simp)).trans (by simp);rw[World.size_alloc] at a9)
  | (gi_at_make;refine wpListIn_make_own _ rfl _ _ 23 rfl (w.heap.size+1) 3 i1 (.int .i64 0) 1 underlying23 hj ah ai .i64 .i64 _ p.nb rfl rfl rfl (by rw[ae];omega) (by unfold maxLen;omega) (by omega) ?_;intro a U H;have T:Below (w.heap.size+1) (w.alloc (.cells #[.slice p.ab p.nb p.cb,.slice p.sa p.ns p.cs] 25)) a:=X.grown H (by omega) (by intro k hk;cases hk);have z:=T.size;rw[World.size_alloc] at z;have c0:a.cell? ⟨w.heap.size,0,none⟩=some (.slice p.ab p.nb p.cb):=(T.cell (p:=⟨w.heap.size,0,none⟩) (by simp)).trans (by simp);have c1:a.cell? ⟨w.heap.size,1,none⟩=some (.slice p.sa p.ns p.cs):=(T.cell (p:=⟨w.heap.size,1,none⟩) (by simp)).trans (by simp);have bb:w.heap.size<a.heap.size:=by omega)
  | (refine⟨trivial,?_⟩;gi_at_call 102;refine(Ey Fence.wide _ trivial rfl p true _).mono ?_;rintro e w' ⟨rfl,rfl⟩))
 obtain⟨t,au,s3,bO,am,bF,cP,ad⟩:∃t,((a.alloc (.cells #[(.slice (some ⟨E.heap.size,0,none⟩) 0 p.nb)] 23)).alloc (.cells #[.slice p.ab p.nb p.cb,.slice p.sa p.ns p.cs] 25)).alloc (.cells #[.bool true] 4)=t/\t.heap.size=a.heap.size+3/\_root_.Go.Boxed t a.heap.size 23 (.slice (some ⟨E.heap.size,0,none⟩) 0 p.nb)/\t.ownsRow (w.heap.size+1) 3 1 (.slice (some ⟨E.heap.size,0,none⟩) 0 p.nb) 0 []/\_root_.Go.Boxed t (a.heap.size+1+1) 4 (.bool true)/\t.cell? ⟨a.heap.size+1,0,none⟩=some (.slice p.ab p.nb p.cb)/\Below (w.heap.size+1) (w.alloc (.cells #[.slice p.ab p.nb p.cb,.slice p.sa p.ns p.cs] 25)) t:=by
  refine⟨_,rfl,by simp,((_root_.Go.Boxed.new a 23 _).alloc _).alloc _,((U.alloc _).alloc _).alloc _,?_,?_,((T.alloc z _).alloc (by simp;omega) _).alloc (by simp;omega) _⟩
  .have:=_root_.Go.Boxed.new ((a.alloc (.cells #[(.slice (some ⟨E.heap.size,0,none⟩) 0 p.nb)] 23)).alloc (.cells #[.slice p.ab p.nb p.cb,.slice p.sa p.ns p.cs] 25)) 4 (.bool true)
   rwa[World.size_alloc,World.size_alloc] at this
  have:=((Blk.new (a.alloc (.cells #[(.slice (some ⟨E.heap.size,0,none⟩) 0 p.nb)] 23)) #[.slice p.ab p.nb p.cb,.slice p.sa p.ns p.cs] 25).alloc (.cells #[.bool true] 4)).cell (j:=0) (by simp)
  rwa[World.size_alloc] at this
 have HP:Hid (∀P,Below (w.heap.size+1) (w.alloc (.cells #[.slice p.ab p.nb p.cb,.slice p.sa p.ns p.cs] 25)) P->tu P p.ab p.nb p.zb):=λP h=>(hp.bins.below G).below (by rw[World.size_alloc];exact h);rw[au];clear X c0 c1 U H au;refine wpIn_rangeFunc_ownG rfl (by decide) (gf:=149) (lb:=#[.pointer (some ⟨a.heap.size+1,0,none⟩),.pointer (some ⟨a.heap.size+1+1,0,none⟩)]) rfl trivial (enters_of func149 (by kernel_rfl) rfl)
  (Iz Fence.wide _ trivial rfl (by decide) (a.heap.size+1) (a.heap.size+1+1) (w.heap.size+1) p true t (by omega) (by omega) (by omega) cP bF.cell leb V (λP h=>HP.out P (ad.trans h))) Hh (Hg (by omega) (by omega)) brf (λ_=>rfl)
  (λpre W=>(∃v,_root_.Go.Boxed W a.heap.size 23 v/\W.ownsRow (w.heap.size+1) 3 1 v pre.length (pre.map (Value.int .i64))/\True)/\_root_.Go.Boxed W (a.heap.size+1+1) 4 (.bool true)/\Below (w.heap.size+1) (w.alloc (.cells #[.slice p.ab p.nb p.cb,.slice p.sa p.ns p.cs] 25)) W)
  (λ_ _ _=>False)
  (OwnFrom.and (Own.from (holdsRow_own (w.heap.size+1) a.heap.size 23 3 1 (λpre:List Int=>pre.length) (λpre=>pre.map (Value.int .i64)) (λ_ _=>True)) _) (OwnFrom.and (Own.from (boxed_own _ _ _) _) (ownFrom_below (by simp) (by omega))))
  (λ_ _ _ _ _ hs _ _=>hs)
  ⟨⟨_,bO,am,trivial⟩,bF,ad⟩
  (λx=>{ tmps:=#[.agg #[.slice p.ab p.nb p.cb,.slice p.sa p.ns p.cs],.pointer (some ⟨w.heap.size,0,none⟩),.slice none 0 0,.int .i64 0,.int .i64 0,.pointer (some ⟨a.heap.size,0,none⟩),.int .i64 x,undef,.agg #[.slice p.ab p.nb p.cb,.slice p.sa p.ns p.cs],.int .i64 0,.int .i64 0,.bool false,undef,.pointer (some ⟨w.heap.size,0,none⟩),.slice p.ab p.nb p.cb,.int .i64 p.nb,(.slice (some ⟨E.heap.size,0,none⟩) 0 p.nb),.agg #[.slice p.ab p.nb p.cb,.slice p.sa p.ns p.cs],.func (.func 149) #[] #[.pointer (some ⟨a.heap.size+1,0,none⟩),.pointer (some ⟨a.heap.size+1+1,0,none⟩)],.int .i64 x,undef,undef,undef,undef,undef,undef,undef,undef,undef,undef,undef,undef],defers:=[] }) ?assign ?body ?done ?stop
 case assign =>
  intro l x W K L
  gi_wp2
  exact L
 case body =>
  rintro l pre x W ⟨⟨v,q,b,-⟩,r,d⟩ a4;have hc:=q.cell
  gi_wp2_with(gi_at_builtin;refine wpListIn_append_own _ rfl _ _ 23 rfl (w.heap.size+1) 3 i1 (.int .i64 0) 1 8 underlying23 hj ah ai ae rfl (by decide) _ _ _ rfl (b.alloc _) ⟨W.heap.size,0,none⟩ 1 1 [.int .i64 x] rfl rfl (cell_one_new _ _ _) (by simp[Value.oneCell']) (by unfold maxLen;omega) (by omega) (by have:=d.size;simp at this ⊢;omega) ?_;intro v' w5 i g _;obtain⟨g',az,rfl⟩:=ownsRow_succ i;obtain⟨M,S,y,J,m⟩:=q.appended (by decide) b (by have:=d.size;simpa using this) z i g;have a2:=M.cell;have a5:=M.frozen;have F:=(r.alloc _).kept g (r.not_row (by decide) b))
  refine⟨J.from _,⟨m,λu hu => ?_⟩,⟨_,S,by simpa using y,trivial⟩,F.other (by omega) _,d.trans m⟩;rw[r.cell] at hu;cases hu;exact(F.other (by omega) _).cell
 case done =>
  rintro D ys f hD rfl ⟨⟨v,q,b,-⟩,-,d⟩ L;have c0:f.cell? ⟨w.heap.size,0,none⟩=some (.slice p.ab p.nb p.cb):=(d.cell (p:=⟨w.heap.size,0,none⟩) (by simp)).trans (by simp);have c1:f.cell? ⟨w.heap.size,1,none⟩=some (.slice p.sa p.ns p.cs):=(d.cell (p:=⟨w.heap.size,1,none⟩) (by simp)).trans (by simp);have bh:w.heap.size<f.heap.size:=by have:=d.size;simp at this;omega
  gi_wp2_with(refine⟨trivial,?_⟩;gi_at_call 102;refine(Ey Fence.wide _ trivial rfl p false _).mono ?_;rintro e w' ⟨rfl,rfl⟩)
  have bm:=q.lt;obtain⟨o,aq,s5,bO,an,bF,cP,ar,a8⟩:∃o,(f.alloc (.cells #[.slice p.ab p.nb p.cb,.slice p.sa p.ns p.cs] 25)).alloc (.cells #[.bool false] 4)=o/\o.heap.size=f.heap.size+2/\_root_.Go.Boxed o a.heap.size 23 v/\o.ownsRow (w.heap.size+1) 3 1 v (frL p true p.nb).length ((frL p true p.nb).map (Value.int .i64))/\_root_.Go.Boxed o (f.heap.size+1) 4 (.bool false)/\o.cell? ⟨f.heap.size,0,none⟩=some (.slice p.ab p.nb p.cb)/\Below (w.heap.size+1) (w.alloc (.cells #[.slice p.ab p.nb p.cb,.slice p.sa p.ns p.cs] 25)) o/\o.heap[D]?=some (.deferred (some [])):=by
   refine⟨_,rfl,by simp,(q.alloc _).alloc _,(b.alloc _).alloc _,?_,?_,(d.alloc (by omega) _).alloc (by simp;omega) _,?_⟩
   .have:=_root_.Go.Boxed.new (f.alloc (.cells #[.slice p.ab p.nb p.cb,.slice p.sa p.ns p.cs] 25)) 4 (.bool false)
    rwa[World.size_alloc] at this
   .exact((Blk.new f #[.slice p.ab p.nb p.cb,.slice p.sa p.ns p.cs] 25).alloc (.cells #[.bool false] 4)).cell (j:=0) (by simp)
   have ap:=(Qkq L).1;exact((((Below.refl f.heap.size f).alloc nlr _).alloc (by simp) _).block D ap).trans L
  have ap:=(Qkq L).1;have bl:=O7 p p.nb;rw[aq];clear q b d L c0 c1 aq ad;refine wpIn_rangeFunc_ownG rfl (by decide) (gf:=149) (lb:=#[.pointer (some ⟨f.heap.size,0,none⟩),.pointer (some ⟨f.heap.size+1,0,none⟩)]) rfl trivial (enters_of func149 (by kernel_rfl) rfl)
   (Iz Fence.wide _ trivial rfl (by decide) f.heap.size (f.heap.size+1) (w.heap.size+1) p false o (by omega) (by omega) (by omega) cP bF.cell leb V (λP h=>HP.out P (ar.trans h))) Hh (Hg (by omega) (by omega)) brf (λ_=>rfl)
   (λpre W=>(∃v,_root_.Go.Boxed W a.heap.size 23 v/\W.ownsRow (w.heap.size+1) 3 1 v (frL p true p.nb++pre).length ((frL p true p.nb++pre).map (Value.int .i64))/\True)/\_root_.Go.Boxed W (f.heap.size+1) 4 (.bool false)/\Below (w.heap.size+1) (w.alloc (.cells #[.slice p.ab p.nb p.cb,.slice p.sa p.ns p.cs] 25)) W/\W.heap[D]?=some (.deferred (some [])))
   (λ_ _ _=>False)
   (OwnFrom.and (Own.from (holdsRow_own (w.heap.size+1) a.heap.size 23 3 1 (λpre:List Int=>(frL p true p.nb++pre).length) (λpre=>(frL p true p.nb++pre).map (Value.int .i64)) (λ_ _=>True)) _) (OwnFrom.and (Own.from (boxed_own _ _ _) _) (OwnFrom.and (ownFrom_below (by simp) (by omega)) (λs A B row hs hg hr=>(hg.block D (Qkq hs).1 (λe=>by have:=(hr D e.symm).1;omega)).trans hs))))
   (λ_ _ _ _ _ hs _ _=>hs)
   ⟨⟨_,bO,by simpa using an,trivial⟩,bF,ar,a8⟩
   (λx=>{ tmps:=#[.agg #[.slice p.ab p.nb p.cb,.slice p.sa p.ns p.cs],.pointer (some ⟨w.heap.size,0,none⟩),.slice none 0 0,.int .i64 0,.int .i64 0,.pointer (some ⟨a.heap.size,0,none⟩),undef,.int .i64 x,.agg #[.slice p.ab p.nb p.cb,.slice p.sa p.ns p.cs],.int .i64 0,.int .i64 0,.bool false,undef,.pointer (some ⟨w.heap.size,0,none⟩),.slice p.ab p.nb p.cb,.int .i64 p.nb,(.slice (some ⟨E.heap.size,0,none⟩) 0 p.nb),.agg #[.slice p.ab p.nb p.cb,.slice p.sa p.ns p.cs],.func (.func 149) #[] #[.pointer (some ⟨a.heap.size+1,0,none⟩),.pointer (some ⟨a.heap.size+1+1,0,none⟩)],undef,undef,undef,undef,undef,.agg #[.slice p.ab p.nb p.cb,.slice p.sa p.ns p.cs],.func (.func 149) #[] #[.pointer (some ⟨f.heap.size,0,none⟩),.pointer (some ⟨f.heap.size+1,0,none⟩)],.int .i64 x,undef,undef,undef,undef,undef],defers:=[] }) ?assign2 ?body2 ?done2 ?stop2
  case assign2 =>
   intro l x W K L
   gi_wp2
   exact L
  case body2 =>
   rintro l pre x W ⟨⟨v,q,b,-⟩,r,d,a3⟩ a4;have hc:=q.cell;have bo:(frL p true p.nb++pre).length<=2*p.nb:=by rw[List.length_append];omega
   gi_wp2_with(gi_at_builtin;refine wpListIn_append_own _ rfl _ _ 23 rfl (w.heap.size+1) 3 i1 (.int .i64 0) 1 8 underlying23 hj ah ai ae rfl (by decide) _ _ _ rfl (b.alloc _) ⟨W.heap.size,0,none⟩ 1 1 [.int .i64 x] rfl rfl (cell_one_new _ _ _) (by simp[Value.oneCell']) (by unfold maxLen;omega) (by omega) (by have:=d.size;simp at this ⊢;omega) ?_;intro v' w5 i g _;obtain⟨g',az,rfl⟩:=ownsRow_succ i;obtain⟨M,S,y,J,m⟩:=q.appended (by decide) b (by have:=d.size;simpa using this) z i g;have a2:=M.cell;have a5:=M.frozen;have F:=(r.alloc _).kept g (r.not_row (by decide) b))
   simp only[List.length_append] at S y J m;refine⟨J.from _,⟨m,λu hu => ?_⟩,⟨_,S,by simpa[Nat.add_assoc] using y,trivial⟩,F.other (by omega) _,d.trans m,J.same D _ a3 rfl⟩;rw[r.cell] at hu;cases hu;exact(F.other (by omega) _).cell
  case done2 =>
   rintro Y ys W ba rfl ⟨⟨v,q,b,-⟩,-,d,ao⟩ aj;have hc:=q.cell
   gi_wp2
   refine⟨by simp,.inl ⟨_,_,rfl,run_takeDeferred aj,?_⟩⟩;have a6:D≠Y:=by omega
   have Q:(W.putObj Y (.deferred none)).heap[D]?=some (.deferred (some [])):=((grownBy_putObj' W Y (.deferred none)).block D (Qkq ao).1 (λe=>a6 (by cases e;rfl))).trans ao;refine⟨by simp,.inl ⟨_,_,rfl,run_takeDeferred Q,?_⟩⟩;have y:=ownsRow_putObj (ownsRow_putObj b (.deferred none) aj rfl) (.deferred none) Q rfl;have a1:Below (w.heap.size+1) (w.alloc (.cells #[.slice p.ab p.nb p.cb,.slice p.sa p.ns p.cs] 25)) (W.putObj Y (.deferred none)):=d.trans (belowK_b (w:=o) (by omega) W Y _ _ ba aj rfl rfl);have m:=a1.trans (belowK_b (w:=t) (by omega) (W.putObj Y (.deferred none)) D _ (.deferred none) hD Q rfl rfl);rw[H0.out,Tq H0.out];exact⟨_,results_tmp2 rfl _ _ _,_,rfl,abe y (Nat.le_succ _),G.trans (m.mono (by omega))⟩
  case stop2 =>
   rintro D c pre W _ _ h _;exact h.elim
 case stop =>
  rintro D c pre W _ _ h _;exact h.elim
open Go.Sort
theorem Yd(B:Nat)(x but:Int)(w:World)(b:B<w.heap.size)(c:w.cell? ⟨B,0,none⟩=some (.int .i64 but)):
  Calls prog 144 #[.int .i64 x,.pointer (some ⟨B,0,none⟩)] w λe a=>e = .returned (.bool (x==but))/\Below w.heap.size w a:=by
 go_enter func144,ntmps144;go_wp2_with fail;go_ret;exact⟨rfl,Below.refl _ _⟩
def Kc(s:St)(o l:Nat)(n:Int)(av:Int->Int)(F:List Int)(A BX BL g k:Nat)(wk:World):Prop :=
 ∃x:St,ep s o l n (Tk.go av n (F.take k)) x/\ai A wk x/\Blk wk BX 31 7 (λj=>x.cells.getD j default)/\Blk wk g 3 F.length (λj => .int .i64 (F.getD j 0))/\(x.os.z o).ls.a=some ⟨BL,0,none⟩
theorem Z8{F:List Int}{k:Nat}(a:k<F.length):F.take (k+1)=F.take k++[F.getD k 0]:=by
 rw[List.take_add_one];simp[List.getD,List.getElem?_eq_getElem a]
theorem aa5{F:List Int}{k:Nat}(a:k<F.length):F.getD k 0∈F:=by
 simp[List.getD,List.getElem?_eq_getElem a]
theorem Ew(h:ag p s=0)(a:b<p.nb)(c:g<p.ns):lv p s b g=0/\tg p s b g=aw s b g:=by
 have e:lv p s b g=0:=by unfold lv;rw[if_pos h,bw (by omega),bw (by omega)];rfl
 exact⟨e,by unfold tg;rw[if_pos e];rfl⟩
theorem Yi(r:ar p s)(c:b<p.nb)(a:g<p.ns):0<=aw s b g/\aw s b g<=200:=by
 have f:=r.fm;refine⟨(ld (r.goods g a)).2 b c,?_⟩;have d:=f.sh.num b (by rw[f.sh.n];exact c) g a;have h:=(nw (s:=s) (b:=b) (g:=g) f.holdN).1;have e:=(jx (s:=s) (b:=b) (g:=g) f.moveN).1;unfold aw;omega
theorem Lz(p:Pl)(s:St)(order line n but:Int)(w:World)(hp:p.At w)(hs:s.At w):
  Calls prog 96 #[p.val,s.val,.int .i64 order,.int .i64 line,.int .i64 n,.int .i64 but] w λe u=>∃x:St,e = .returned (.tuple #[x.val,.int .i64 (Ct p s order line n but),.int .i64 (fc p s order line n but)])/\x.At u/\Ah p s order line n but x/\(fc p s order line n but=0->ai w.heap.size u x)/\Below w.heap.size w u:=by
 obtain⟨W0,hW,bd,X0,K0,Z0⟩:∃W,((((w.alloc (.cells #[.slice p.ab p.nb p.cb,.slice p.sa p.ns p.cs] 25)).alloc (.cells s.cells 31)).alloc (.cells #[.int .i64 but] 3)).alloc (.cells #[.slice .none 0 0,.slice .none 0 0,.slice .none 0 0,.slice .none 0 0,.slice .none 0 0,.slice .none 0 0,.slice .none 0 0] 31))=W/\Below w.heap.size w W/\lx W w.heap.size (w.heap.size+1) p s/\Blk W (w.heap.size+2) 3 1 (λ_ => .int .i64 but)/\Blk W (w.heap.size+3) 31 7 (λ_ => .slice .none 0 0):=
  ⟨_,rfl,((ix _ _ _).alloc (by simp;omega) _).alloc (by simp;omega) _,((nt w p s _ _).below (brf.alloc nlr _)).below (brf.alloc nlr _),((Blk.mk' (cur:=#[.int .i64 but]) (by simp) rfl).congr (λj hj=>by match j,hj with|0,_=>rfl)).alloc _,(Blk.mk' (cur:=#[.slice .none 0 0,.slice .none 0 0,.slice .none 0 0,.slice .none 0 0,.slice .none 0 0,.slice .none 0 0,.slice .none 0 0]) (by simp) rfl).congr (λj hj=>by match j,hj with|0,_=>rfl|1,_=>rfl|2,_=>rfl|3,_=>rfl|4,_=>rfl|5,_=>rfl|6,_=>rfl)⟩
 have HC:Hid (∀L,Below W0.heap.size W0 L->lx L w.heap.size (w.heap.size+1) p s/\p.At L/\s.At L/\Below w.heap.size w L/\Blk L (w.heap.size+3) 31 7 (λ_ => .slice .none 0 0)/\Blk L (w.heap.size+2) 3 1 (λ_ => .int .i64 but)):=λL h=>⟨X0.below h,(hp.below bd).below h,(hs.below bd).below h,bd.trans (h.mono bd.size),Z0.below h,K0.below h⟩;have HW:Hid ((((w.alloc (.cells #[.slice p.ab p.nb p.cb,.slice p.sa p.ns p.cs] 25)).alloc (.cells #[.slice s.on.a s.on.n s.on.c,.slice s.os.a s.os.n s.os.c,.slice s.hs.a s.hs.n s.hs.c,.slice s.ms.a s.ms.n s.ms.c,.slice s.si.a s.si.n s.si.c,.slice s.so.a s.so.n s.so.c,.slice s.sf.a s.sf.n s.sf.c] 31)).alloc (.cells #[.int .i64 but] 3)).alloc (.cells #[.slice .none 0 0,.slice .none 0 0,.slice .none 0 0,.slice .none 0 0,.slice .none 0 0,.slice .none 0 0,.slice .none 0 0] 31)=W0):=hW;have leb:=hp.leb;have cx:=hp.capb;have capb:=cx;have les:=hp.les;have caps:=hp.caps;have gz:=Z0.lt;unfold maxLen at capb caps;clear hW X0 Z0 K0 hp hs;unfold Pl.val St.val;go_enter func96,ntmps96;go_wp2_with fail;rw[HW.out];obtain⟨X,t,r,q,A,kb⟩:=HC.out W0 brf;refine(Oy p s order line n but W0 t r).mono ?_;rintro e w1 ⟨rfl,hB⟩;clear X t r q A kb HW;obtain⟨⟨⟨l1,d0,d1⟩,l2,c0,c1,c2,c3,c4,c5,c6⟩,t,r,q,A,kb⟩:=HC.out w1 hB;by_cases hE:fc p s order line n but=0;rotate_left
 .have i:Hid (Ct p s order line n but=0):=if_neg hE;clear c0 c1 c2 c3 c4 c5 c6 t r kb;obtain⟨zl,e4,fs,fe,zc1,ft,zc2,gp,zc3,fk,zc4,es,zc5,eu,fh⟩:=z7 A;go_wp2_with fail;have KZ:=n7b A;have aq:=n7w (b:=w.heap.size+3) q (by omega);unfold set7 at KZ aq;obtain⟨cp,b7,bz,cf,bs,ce,cq⟩:=df KZ;refine Xzq (v := .tuple #[j5.val,.int .i64 0,.int .i64 (fc p s order line n but)]) (by simp[results,results96,go_sem,j5,St.val,cp,b7,bz,cf,bs,ce,cq]) rfl ?_;exact⟨j5,by rw[i.out];rfl,uo _,⟨λh=>absurd h hE,λ_=>⟨rfl,rfl,rfl,rfl,rfl,rfl,rfl⟩⟩,λh=>absurd h hE,aq⟩
 have HE:=hid hE;have F:Hid (ox p s order line n but):=allocIn hE;rw[hE];clear hE;have K:Hid (ar p s):=dp F.out.st;have dv:Hid (et p=0):=(wh K.out.fm.sh0).1;obtain⟨o,rfl⟩:=Qzz F.out.o0;obtain⟨l,rfl⟩:=Qzz F.out.l0;have ho:o<s.os.n:=F.out.on;have hl:l<(s.os.z o).ls.n:=F.out.ln;have nb1:=K.out.fm.sh.pl.nb1;have nb6:=K.out.fm.sh.pl.nb6;have dt:=hid t;clear t r c0 c1 c2 c3 c4 c5 c6 q A;go_wp2_with fail;refine(Vp p w1 dt.out).mono ?_;rintro e w2 ⟨v,rfl,B,aj⟩;clear l1 d0 d1 l2 dt;rw[Tq dv.out] at B;have ds:Hid ((fq p).length=p.nb):=Vg p;have hv:v ≠ .slice none 0 0:=by
  rintro rfl;rcases B.2 with⟨_,h0⟩|⟨g2,gy,gs,h,_⟩
  .have:=ds.out;omega
  cases h
 obtain⟨g,c,rfl,f0,gf,hg,hk⟩:=Blk.ofOwns B hv;have d7:Blk w2 g 3 (fq p).length (λj => .int .i64 ((fq p).getD j 0)):=by
  have h:=hk.less (m:=(fq p).length) (by omega);refine h.congr λj hj => ?_;simp[List.getD,List.getElem?_eq_getElem hj]
 have d4:Hid (Calls prog 143 #[.slice (some ⟨g,0,none⟩) (fq p).length c,.func (.func 144) #[] #[.pointer (some ⟨w.heap.size+1+1,0,none⟩)]] w2 λe u=>e = .returned (.slice (some ⟨g,0,none⟩) (fg p but).length c)/\Blk u g 3 (fg p but).length (λj => .int .i64 ((fg p but).getD j 0))/\Below w1.heap.size w2 u):=
  aaj 144 #[.pointer (some ⟨w.heap.size+1+1,0,none⟩)] (λx=>x==but) w1.heap.size g c (fq p) w2 hg aj.size f0 gf d7 (enters_of func144 (by kernel_rfl) rfl) (λx wz A=>by
   have U:=kb.lt;exact Yd (w.heap.size+1+1) x but wz (Xzx U (Qzx aj.size A.size)) ((A.cell (p:=⟨w.heap.size+2,0,none⟩) U).trans ((aj.cell (p:=⟨w.heap.size+2,0,none⟩) U).trans (kb.k 0))))
 rw[dv.out];clear B hv hk d7;go_wp2_with fail;refine d4.out.mono ?_;rintro e w3 ⟨rfl,bx,dn⟩;have a1:=aj.trans dn;have ay:=hB.trans (a1.mono hB.size);have e7:=a1.size;have ea:=bx.lt;have du:=hid bx;have he:(fg p but).length<=6:=by
  have:=ds.out;have:=List.length_filter_le (λb => !(b==but)) (fq p);unfold fg;omega
 have ha:(fg p but).length<=c:=by
  have:=List.length_filter_le (λb => !(b==but)) (fq p);unfold fg;omega
 clear d4 bx kb aj dn a1 hB;obtain⟨⟨⟨l1,d0,d1⟩,l2,c0,c1,c2,c3,c4,c5,c6⟩,t,r,q,A,kb⟩:=HC.out w3 ay;have de:Hid _:=ov p s w3 r K.out.fm;clear t r q A kb;go_wp2_with fail;refine Calls.mono de.out ?_;rintro e E ⟨x0,rfl,H,B,bh⟩;clear de l1 d0 d1 l2 c0 c1 c2 c3 c4 c5 c6;have q4:=bh.size;obtain⟨W5,dz,a9,K5⟩:=ab7 E x0;have bw:=hid dz;have a3:=bh.trans (a9.mono bh.size);have d3:=ay.trans (a3.mono ay.size);have D:=ai.below B a9;have dl:=du.out.below a3;have d2:o<x0.os.n:=by rw[H.os.1];exact ho
 have e0:=H.os.2 o d2;have fx:l<(x0.os.z o).ls.n:=by rw[e0.2.1];exact hl
 obtain⟨gO,G,f1,f2,f3,f4,M,f6,f7,f8,f9,ad,V,au,am,af⟩:=D.lineCell d2 fx;have s1:W5.cell? ⟨E.heap.size,1,none⟩=some (.slice x0.os.a x0.os.n x0.os.c):=K5.k 1;have s2:=K5.lt;have v1:=D.os.le;have v2:=D.os.cap;rw[f1] at s1;have cc:Hid (Kc s o l n (λb=>aw s b.toNat (fp s o l).o.toNat) (fg p but) w3.heap.size E.heap.size G g 0 W5):=⟨x0,by rw[Qyz];exact ep.start K.out.fm.hold H,D,K5,dl,M⟩;have qo:(0:Int)<=(o:Int):=by omega
 have ql:(0:Int)<=(l:Int):=by omega
 have bb:=qa5 d3 ay.size q4 ea f6;rw[<-bw.out] at s1 s2 f3 f4 f7;unfold maxLen at v2 f9;clear dz B D dl K5 bh a9 a3 d3 f1 f2 M f6 ad V au am af e0 H du;simp only[St.val];go_wp2_with fail;rw[bw.out];clear s1 s2 f3 f4 f7 bw ay q4 e7 ea v1 v2 f8 f9
 generalize x0.os.n=XN at *
 go_loopw [4,56] (λnv kv L=>∃k:Nat,k<=(fg p but).length/\kv = .int .i64 k/\nv = .int .i64 (Tk.go (λb=>aw s b.toNat (fp s o l).o.toNat) n ((fg p but).take k)).left/\Hid (Kc s o l n (λb=>aw s b.toNat (fp s o l).o.toNat) (fg p but) w3.heap.size E.heap.size G g k L)/\Hid (Below W0.heap.size W0 L)) (λ_ kv _=>(fg p but).length-(intOf kv).toNat)
 case atStart=>exact⟨0,Qxz _,rfl,rfl,cc,bb.out.1⟩
 clear cc;obtain⟨k,hk,rfl,rfl,HV,ax⟩:=hrel;have ak:Hid (Ar (λb=>aw s b.toNat (fp s o l).o.toNat) n ((fg p but).take k) (Tk.go (λb=>aw s b.toNat (fp s o l).o.toNat) n ((fg p but).take k))):=F.out.tk ((vx p but).sublist (List.take_sublist _ _)) (λx hx=>F.out.way x (List.mem_of_mem_take hx));have be:Hid (k<(fg p but).length->Tk.go (λb=>aw s b.toNat (fp s o l).o.toNat) n ((fg p but).take (k+1))=(Tk.go (λb=>aw s b.toNat (fp s o l).o.toNat) n ((fg p but).take k)).step (λb=>aw s b.toNat (fp s o l).o.toNat) ((fg p but).getD k 0)):=λh=>by rw[Z8 h,Tk.go_more]
 have ah:Hid (k=(fg p but).length->Tk.go (λb=>aw s b.toNat (fp s o l).o.toNat) n ((fg p but).take k)=Pm p s (fp s o l).o n but):=λh=>by rw[h,List.take_length];rfl
 obtain⟨x,hT,hO,hK,hF,c8⟩:=HV.out;have i:=qa5 hT hO hK hF c8;obtain⟨T,dg⟩:∃T,Tk.go (λb=>aw s b.toNat (fp s o l).o.toNat) n ((fg p but).take k)=T:=⟨_,rfl⟩;rw[dg] at ak be ah i ⊢;clear hT hO hK hF c8 HV dg;have gk:=ak.out.left0;have fv:=ak.out.leftn;have g7:=F.out.n2;by_cases U:k<(fg p but).length;rotate_left
 .have fb:k=(fg p but).length:=by omega
  have HT:Hid (T=Pm p s (fp s o l).o n but):=ah.out fb;clear ah;have KX:=i.out.2.2.1;obtain⟨m1,p0,p1,p2,p3,p4,p5,p6⟩:=Boxed.of KX;obtain⟨-,-,-,q,A,-⟩:=HC.out wr ax.out;have HZ:=qa2 q A;obtain⟨zl,e4,fs,fe,zc1,ft,zc2,gp,zc3,fk,zc4,es,zc5,eu,fh⟩:=z7 A;clear KX q A;go_wp2_with fail;have KZ:=s7b HZ.out.2 x;have aq:=s7w (b:=w.heap.size+3) HZ.out.1 (by omega) x;have cj:=s7o i.out.2.1 HZ.out.2 x;unfold set7 at KZ aq cj;obtain⟨cp,b7,bz,cf,bs,ce,cq⟩:=df KZ;refine Xzq (v := .tuple #[x.val,.int .i64 T.left,.int .i64 0]) (by simp[results,results96,go_sem,St.val,cp,b7,bz,cf,bs,ce,cq]) rfl ?_;have HL:Ct p s o l n but=T.left:=by rw[HT.out];exact if_pos HE.out
  refine⟨x,by rw[HL,HE.out];rfl,cj.at,⟨λ_ => ?_,λh=>absurd HE.out h⟩,λ_=>cj.mono ?_,aq⟩
  .rw[<-HT.out];exact i.out.1
  have:=(HC.out _ bb.out.1).2.2.2.1.size;have:=bb.out.2.1;omega
 have al:Hid _:=be.out U;obtain⟨ca,ck⟩:=F.out.way _ (aa5 U);have z0:=i.out.2.2.2.1.cell (j:=k) U;have z1:=i.out.2.2.2.1.lt;obtain⟨Q,bg⟩:=Qzz ca;have dd:=hid bg;rw[bg] at z0 ck;have a7:Q<p.nb:=by omega
 have di:=F.out.good;obtain⟨gd,bc⟩:=Qzz di.1;have hd:=hid bc;have a5:gd<p.ns:=by omega
 have cr:Hid (∀u,p.At u->s.At u->Calls prog 105 #[p.val,s.val,.int .i64 (Q:Int),.int .i64 (gd:Int)] u λe fo=>e = .returned (.tuple #[.int .i64 (aw s Q gd),.int .i64 0])/\Below u.heap.size u fo):=λu h1 h2=>by
  have h:=Im p s Q gd u h1 h2;rw[(Ew F.out.st a7 a5).1,(Ew F.out.st a7 a5).2] at h;exact h
 have g6:=Yi K.out a7 a5;have ge:Hid ((λb:Int=>aw s b.toNat (fp s o l).o.toNat) ((fg p but).getD k 0)=aw s Q gd):=by
  show aw s ((fg p but).getD k 0).toNat (fp s o l).o.toNat=_;rw[bg,bc]
  rfl
 generalize hAVd:aw s Q gd=AV at *
 clear hAVd;have S:o<x.os.n:=by rw[i.out.1.os.1];exact ho
 have ex:=i.out.1.os.2 o S;have an:l<(x.os.z o).ls.n:=by rw[ex.2.1];exact hl
 obtain⟨gO,da,f1,f2,f3,f4,M,f6,f7,f8,f9,ad,V,au,am,af⟩:=i.out.2.1.lineCell S an;rw[i.out.2.2.2.2] at M;simp only[Qkx,Qkz,and_true] at M;subst M;have db:((x.os.z o).ls.z l).o=(gd:Int):=by
  rw[ex.2.2 l an,if_pos ⟨rfl,rfl⟩];exact bc
 have ch:((x.os.z o).ls.z l).n=(fp s o l).n-(n-T.left):=by
  rw[ex.2.2 l an,if_pos ⟨rfl,rfl⟩]
  rfl
 have g9:=hid ch;have ff:=er (K.out.fm.line o ho l hl);have ef : -1000<=((x.os.z o).ls.z l).n/\((x.os.z o).ls.z l).n<=1000:=by
  rw[ch];have h1:(fp s o l).n=((s.os.z o).ls.z l).n:=rfl;rw[h1];omega
 rw[db] at V;obtain⟨⟨⟨l1,d0,d1⟩,l2,c0,c1,c2,c3,c4,c5,c6⟩,t,r,q,A,kb⟩:=HC.out wr ax.out;have cg:=qa2 t r;have r0:=Qqq d0;have r1:=Qqq d1;have ey:=Qqq c0;have e2:=Qqq c1;have gj:=Qqq c2;have fa:=Qqq c3;have fj:=Qqq c4;have gn:=Qqq c5;have gm:=Qqq c6;have rl:=Qqq V;clear bg bc di t r q A kb d0 d1 c0 c1 c2 c3 c4 c5 c6 l1 l2 f1 f2 f3 f4 f6 f8 f9 ad V au am af ex db ch ff ah ca ck;obtain⟨J,cn⟩:∃J,((x.os.z o).ls.z l).n=J:=⟨_,rfl⟩;have d9:=hid cn;rw[cn] at ef;clear cn;obtain⟨N,hN⟩:∃N,T.left=N:=⟨_,rfl⟩;have HN:=hid hN;rw[hN] at gk fv ⊢;clear hN;have q0:(0:Int)<=(k:Int):=by omega
 have bf:Hid (∀m,min N AV=m->min T.left ((λb:Int=>aw s b.toNat (fp s o l).o.toNat) ((fg p but).getD k 0))=m):=λm h=>by rw[ge.out,HN.out];exact h
 go_wp2_with fail;refine Qxq (by kernel_rfl) (by kernel_rfl) ?_
 repeat(go_big_quiet_step((go_at_call 105;exact Xxz (cr.out _ (cg.out.1.below (Qxx _ _ _)) (cg.out.2.below (Qxx _ _ _))))))
 refine Qqz ?_;intro Y d8;have ao:Below wr.heap.size wr Y:=by obtain⟨⟨dq,hb⟩,en⟩:=d8;subst en;exact Qxx _ _ _
 clear d8 r0 r1 ey e2 gj fa fj gn gm rl cg z0 z1 cr;have P:=hid (ax.out.trans (ao.mono ax.out.size));have f:Hid (ep s o l n T x/\ai w3.heap.size Y x/\Blk Y E.heap.size 31 7 (λj=>x.cells.getD j default)/\Blk Y g 3 (fg p but).length (λj => .int .i64 ((fg p but).getD j 0))/\(x.os.z o).ls.a=some ⟨G,0,none⟩):=⟨i.out.1,ai.below i.out.2.1 ao,i.out.2.2.1.below ao,i.out.2.2.2.1.below ao,i.out.2.2.2.2⟩;clear ao i ax f7;by_cases fy:min AV N=0
 .have dm:min N AV=0:=by omega
  have ag:Hid (Kc s o l n (λb=>aw s b.toNat (fp s o l).o.toNat) (fg p but) w3.heap.size E.heap.size G g (k+1) Y/\(Tk.go (λb=>aw s b.toNat (fp s o l).o.toNat) n ((fg p but).take (k+1))).left=N):=by
   refine⟨⟨x,?_,f.out.2⟩,?_⟩
   .rw[al.out];exact f.out.1.stepZero (bf.out 0 dm)
   rw[al.out];show T.left-min T.left _=N;rw[bf.out 0 dm,HN.out];omega
  go_wp2_with fail;go_roundw
  case rel=>exact⟨k+1,by omega,by go_num,by rw[ag.out.2],ag.out.1,P⟩
  case measure=>simp[intOf];omega
 obtain⟨d,dj⟩:∃d,min AV N=d:=⟨_,rfl⟩;have gb:=hid dj;have gh:0<d:=by omega
 have e3:d<=N:=by omega
 have hc:(d==0)=false:=by simp;omega
 have c9:Hid (min N AV=d):=by show min N AV=d;omega
 have dh:Hid (addE x.hs.n x.hs.z (k9 o l Q d)=0):=by
  have h:=f.out.1.addE (p:=p) (order:=o) (line:=l) (but:=but) F.out (λx hx=>F.out.way x (List.mem_of_mem_take hx)) ak.out (b:=(Q:Int)) ⟨by omega,by omega⟩ gh (by rw[HN.out];exact e3);exact h
 have KX:=f.out.2.2.1;have y2:Y.cell? ⟨E.heap.size,2,none⟩=some (.slice x.hs.a x.hs.n x.hs.c):=KX.k 2;have y3:=KX.lt;have d5:Hid (Calls prog 145 #[.slice x.hs.a x.hs.n x.hs.c,.agg #[.int .i64 (o:Int),.int .i64 (l:Int),.int .i64 (Q:Int),.int .i64 d]] Y λe u=>∃s':Hs,e = .returned (.tuple #[s'.val,.int .i64 0])/\cw Y.heap.size 61 u s'/\Eo x.hs.n x.hs.z (k9 o l Q d) s'/\Below Y.heap.size Y u):=by
  have h:=Vh x.hs (k9 o l Q d) Y f.out.2.1.hs.at;rw[dh.out] at h;exact h
 clear KX fy gb;go_wp2_with fail;refine d5.out.mono ?_;rintro e wa ⟨y,rfl,cm,d6,ae⟩;clear y2 y3 d5 dj;have q9:=P.out.size;have qa:=ae.size;obtain⟨b1,b2,b3,b4,b5⟩:=bb.out;have dy:=ai.below f.out.2.1 ae;have KA:=f.out.2.2.1.below ae;have FA:=f.out.2.2.2.1.below ae;have cl:=P.out.trans (ae.mono P.out.size);have gx:=f.out.2.2.1.lt;have S:o<x.os.n:=by rw[f.out.1.os.1];exact ho
 have bi:=(dy.withHolds (cm.mono (by omega))).box KA 2 (.slice y.a y.n y.c);have KB:=KA.set 2 (.slice y.a y.n y.c);have FB:=FA.other (a:=⟨E.heap.size,2,none⟩) (Blk.ne2 FA KA (by decide)) (.slice y.a y.n y.c);have dc:=cl.setCell (p:=⟨E.heap.size,2,none⟩) (by show W0.heap.size<=E.heap.size;omega) (.slice y.a y.n y.c);have an:l<(x.os.z o).ls.n:=by rw[(f.out.1.os.2 o S).2.1];exact hl
 obtain⟨gO,da,f1,f2,f3,f4,M,f6,f7,f8,f9,ad,V,au,am,af⟩:=bi.lineCell (o:=o) (l:=l) S an;have bt:(x.os.z o).ls.a=some ⟨da,0,none⟩:=M;rw[f.out.2.2.2.2] at bt;simp only[Qkx,Qkz,and_true] at bt;subst bt;have ee:(wa.setCell ⟨E.heap.size,2,none⟩ (.slice y.a y.n y.c)).cell? ⟨G,l*4+3,none⟩=some (.int .i64 ((x.os.z o).ls.z l).n):=af;rw[d9.out] at ee;have g8:=ad (l*4+3);obtain⟨B',a6,-,-,-,cd⟩:=bi.os.lines o S;rw[M] at a6;simp only[Qkx,Qkz,and_true] at a6;subst a6;have dk:=bi.setLine (o:=o) S M l 3 (by decide) (J-d);have KC:=KB.other (a:=⟨G,l*4+3,none⟩) (Blk.ne2 KB cd (by decide)) (.int .i64 (J-d));have FC:=FB.other (a:=⟨G,l*4+3,none⟩) (Blk.ne2 FB cd (by decide)) (.int .i64 (J-d));have dw:=dc.setCell (p:=⟨G,l*4+3,none⟩) (by show W0.heap.size<=G;omega) (.int .i64 (J-d));have dx:=f.out.1.stepAdd (av:=λb=>aw s b.toNat (fp s o l).o.toNat) (order:=o) (line:=l) (b:=(fg p but).getD k 0) (m:=d) ho hl (bf.out d c9.out) (by rw[dd.out];exact dh.out) (by rw[dd.out];exact d6);have ag:Hid (Kc s o l n (λb=>aw s b.toNat (fp s o l).o.toNat) (fg p but) w3.heap.size E.heap.size G g (k+1) ((wa.setCell ⟨E.heap.size,2,none⟩ (.slice y.a y.n y.c)).setCell ⟨G,l*4+3,none⟩ (.int .i64 (J-d)))/\(Tk.go (λb=>aw s b.toNat (fp s o l).o.toNat) n ((fg p but).take (k+1))).left=N-d/\Below W0.heap.size W0 ((wa.setCell ⟨E.heap.size,2,none⟩ (.slice y.a y.n y.c)).setCell ⟨G,l*4+3,none⟩ (.int .i64 (J-d)))):=by
  refine⟨⟨withHolds (setLine x o l 3 (J-d)) y,?_,dk,KC.congr (λj hj=>by match j,hj with|0,_=>rfl|1,_=>rfl|2,_=>rfl|3,_=>rfl|4,_=>rfl|5,_=>rfl|6,_=>rfl),FC,?_⟩,?_,dw⟩
  .rw[al.out];have h:=dx;rw[show((x.os.z ((o:Nat):Int).toNat).ls.z ((l:Nat):Int).toNat).n=J from d9.out] at h;exact h
  .exact((dr (s:=x) (o:=o) (l:=l) (c:=3) (v:=J-d) o).2.1).trans f.out.2.2.2.2
  rw[al.out];show T.left-min T.left _=N-d;rw[bf.out d c9.out,HN.out]
 have z1:=KA.lt;have z2:=KA.frozen 2;have z3:=KA.k 2;clear dy KA FA cl bi KB FB dc f1 f2 f3 f4 M f6 f8 f9 ad V au am af cd dk KC FC dw dx cm d6 ae f P ak al;simp only[Hs.val];go_wp2_with fail;go_roundw
 case rel=>exact⟨k+1,by omega,by go_num,by rw[ag.out.2.1],ag.out.1,ag.out.2.2⟩
 case measure=>simp[intOf];omega
structure Fm(p:Pl)(s y0:St)(A B7:Nat)(W0:World)(cur:St)(wk:World):Prop where
 own0:ai A wk y0
 own:ai A wk cur
 box:Blk wk B7 31 7 (λj=>cur.cells.getD j default)
 bel:Below W0.heap.size W0 wk
 le:A<=wk.heap.size
theorem Fm.below{d cur:St}{f b e:World}(h:Fm p s d A c f cur b)(a:Below b.heap.size b e):Fm p s d A c f cur e :=
 ⟨h.own0.below a,h.own.below a,h.box.below a,h.bel.trans (a.mono h.bel.size),Qzx h.le a.size⟩
def zi(p:Pl)(s:St)(i:Nat)(cur:St):Prop:=iq p (-1) (qt s) (yd s) (dh s s.os.n) i cur
def xq(p:Pl)(s:St)(i j:Nat)(cur:St):Prop:=∃y,zi p s i y/\lm p (-1) (qt s) i y j cur
theorem xq.next{cur:St}(h:xq p s i (s.os.z i).ls.n cur):zi p s (i+1) cur:=h
theorem zi.row{cur:St}(h:zi p s i cur):xq p s i 0 cur:=⟨cur,h,rfl⟩
theorem zi.skip{cur:St}(r:ar p s)(h:zi p s i cur)(hi:i<s.os.n)(c:¬((dh s s.os.n).os.z i).k=1):zi p s (i+1) cur :=
 ⟨cur,h,lm.skip (xd r) (iq.pos (xd r) (λa _=>nd s a) (Nat.le_of_lt hi) h) hi (Nat.le_of_eq (nd s i)) λb _=>if_neg c⟩
theorem xq.pos{cur:St}(r:ar p s)(h:xq p s i j cur)(hi:i<s.os.n)(b:j<=(s.os.z i).ls.n):Pos p (-1) (qt s) (dh s s.os.n) i j cur:=by
 obtain⟨y,d,c⟩:=h;exact lm.pos (xd r) (iq.pos (xd r) (λa _=>nd s a) (Nat.le_of_lt hi) d) hi (by rw[<-nd];exact b) c
theorem xq.stepIn{cur:St}(r:ar p s)(h:xq p s i j cur)(hi:i<s.os.n)(a:j<(s.os.z i).ls.n):km p (-1) cur i j (qt s i j):=
 (h.pos r hi (Nat.le_of_lt a)).stepIn (xd r) hi (by rw[<-nd];exact a)
theorem xq.step{cur:St}(h:xq p s i j cur)(T:l6 p (-1) cur i j (qt s i j) x):xq p s i (j+1) x:=by
 obtain⟨y,b,a⟩:=h;exact⟨y,b,cur,a,T⟩
theorem Ty(p:Pl)(s:St)(w:World)(hp:p.At w)(hs:s.At w):
  Calls prog 43 #[p.val,s.val] w λe w'=>∃x:St,e = .returned (.tuple #[x.val,.int .i64 (ag p s)])/\x.At w'/\Gx p s x/\(ag p s=0->ai w.heap.size w' x)/\Below w.heap.size w w':=by
 obtain⟨q,hW,J,X0,Z0⟩:∃W,(((w.alloc (.cells #[.slice p.ab p.nb p.cb,.slice p.sa p.ns p.cs] 25)).alloc (.cells s.cells 31)).alloc (.cells #[.slice .none 0 0,.slice .none 0 0,.slice .none 0 0,.slice .none 0 0,.slice .none 0 0,.slice .none 0 0,.slice .none 0 0] 31))=W/\Below w.heap.size w W/\lx W w.heap.size (w.heap.size+1) p s/\Blk W (w.heap.size+2) 31 7 (λ_ => .slice .none 0 0):=
  ⟨_,rfl,(ix _ _ _).alloc (by simp;omega) _,(nt w p s _ _).below ((Below.refl _ _).alloc (Nat.le_refl _) _),(Blk.mk' (cur:=#[.slice .none 0 0,.slice .none 0 0,.slice .none 0 0,.slice .none 0 0,.slice .none 0 0,.slice .none 0 0,.slice .none 0 0]) (by simp) rfl).congr (λj V=>by match j,V with|0,_=>rfl|1,_=>rfl|2,_=>rfl|3,_=>rfl|4,_=>rfl|5,_=>rfl|6,_=>rfl)⟩
 have HC:Hid (∀m,Below q.heap.size q m->lx m w.heap.size (w.heap.size+1) p s/\p.At m/\s.At m/\Below w.heap.size w m/\Blk m (w.heap.size+2) 31 7 (λ_ => .slice .none 0 0)):=λm h=>⟨X0.below h,(hp.below J).below h,(hs.below J).below h,J.trans (h.mono J.size),Z0.below h⟩;have HW:Hid (((w.alloc (.cells #[.slice p.ab p.nb p.cb,.slice p.sa p.ns p.cs] 25)).alloc (.cells #[.slice s.on.a s.on.n s.on.c,.slice s.os.a s.os.n s.os.c,.slice s.hs.a s.hs.n s.hs.c,.slice s.ms.a s.ms.n s.ms.c,.slice s.si.a s.si.n s.si.c,.slice s.so.a s.so.n s.so.c,.slice s.sf.a s.sf.n s.sf.c] 31)).alloc (.cells #[.slice .none 0 0,.slice .none 0 0,.slice .none 0 0,.slice .none 0 0,.slice .none 0 0,.slice .none 0 0,.slice .none 0 0] 31)=q):=hW;have leb:=hp.leb;have b0:=hp.capb;have les:=hp.les;have b6:=hp.caps;have capb:=b0;have caps:=b6;have ew:=Z0.lt;unfold maxLen at capb caps;clear hW X0 Z0 hp hs;unfold Pl.val St.val;go_enter func43,ntmps43;go_wp2_with fail;rw[HW.out];obtain⟨X,G,E,r,L⟩:=HC.out q (Below.refl _ _);refine(lg p s q G E).mono ?_;rintro e g ⟨rfl,hB⟩;clear X G E r L HW;obtain⟨⟨⟨l1,d0,d1⟩,l2,c0,c1,c2,c3,c4,c5,c6⟩,G,E,r,L⟩:=HC.out g hB;by_cases h0:ag p s=0;rotate_left
 .have cc:=hid h0;have g0:(ag p s !=0)=true:=by simpa using h0
  clear h0 G E;obtain⟨zl,ce,cm,ch,zc1,cn,zc2,dc,zc3,cj,zc4,b7,zc5,ca,ci⟩:=z7 L;go_wp2_with fail;have KZ:=n7b L;have ah:=n7w (b:=w.heap.size+2) r (by omega);unfold set7 at KZ ah;obtain⟨br,bc,ba,bm,a1,bk,bs⟩:=df KZ;refine Xzq (v := .tuple #[j5.val,.int .i64 (ag p s)]) (by simp[results,results43,go_sem,j5,St.val,br,bc,ba,bm,a1,bk,bs]) rfl ?_;exact⟨j5,rfl,uo _,⟨λh=>absurd h cc.out,λ_=>⟨rfl,rfl,rfl,rfl,rfl,rfl,rfl⟩⟩,λh=>absurd h cc.out,ah⟩
 have H0:=hid h0;have HR:Hid (ar p s):=dp h0;rw[h0];clear h0;have cg:Hid (Calls prog 90 #[s.val] g λe w'=>∃s':St,e = .returned s'.val/\af s' s/\ai g.heap.size w' s'/\Below g.heap.size g w'):=ov p s g E HR.out.fm;clear G E r L;go_wp2_with fail;refine Calls.mono cg.out ?_;rintro e Y ⟨d,rfl,U,aa,ak⟩;clear cg l1 d0 d1 l2 c0 c1 c2 c3 c4 c5 c6;obtain⟨W5,cv,M,K5⟩:∃W,Y.alloc (.cells #[.slice d.on.a d.on.n d.on.c,.slice d.os.a d.os.n d.os.c,.slice d.hs.a d.hs.n d.hs.c,.slice d.ms.a d.ms.n d.ms.c,.slice d.si.a d.si.n d.si.c,.slice d.so.a d.so.n d.so.c,.slice d.sf.a d.sf.n d.sf.c] 31)=W/\Below Y.heap.size Y W/\Blk W Y.heap.size 31 7 (λj=>d.cells.getD j default):=⟨_,rfl,(Below.refl _ _).alloc (Nat.le_refl _) _,Blk.mk' rfl rfl⟩;have a7:Hid (Y.alloc (.cells #[.slice d.on.a d.on.n d.on.c,.slice d.os.a d.os.n d.os.c,.slice d.hs.a d.hs.n d.hs.c,.slice d.ms.a d.ms.n d.ms.c,.slice d.si.a d.si.n d.si.c,.slice d.so.a d.so.n d.so.c,.slice d.sf.a d.sf.n d.sf.c] 31)=W5):=cv;have aq:=ak.trans (M.mono ak.size);have cw:=hB.trans (aq.mono hB.size);have co:Hid (ai g.heap.size W5 (dh d 0)):=by show ai g.heap.size W5 (dh d 0);rw[Qt];exact ai.below aa M
 have ac:=hid U;have s1:=K5.cell (j:=1) (by decide);have cp:W5.cell? ⟨Y.heap.size,1,none⟩=some (.slice d.os.a d.os.n d.os.c):=s1;have s2:=K5.lt;have ck:=hid K5;have b8:=hid cw;have A1:q.heap.size<=g.heap.size:=hB.size;have A2:g.heap.size<=Y.heap.size:=ak.size;have A3:g.heap.size<=W5.heap.size:=aq.size;have ed:g.heap.size<=Y.heap.size:=ak.size;have ol:d.os.n<=d.os.c:=(ai.below aa M).os.le;have oc:d.os.c<=maxLen:=(ai.below aa M).os.cap;unfold maxLen at oc;have d7:d.os.n<=4:=by rw[U.os.1];exact HR.out.fm.os4
 rw[<-a7.out] at cp s2;clear cv aa K5 ak M aq cw U hB s1;simp only[St.val];go_wp2_with fail;rw[a7.out];clear cp s2 a7
 generalize Y.heap.size=t at *
 go_loopw [25] (λkv m=>∃k:Nat,k<=d.os.n/\kv = .int .i64 k/\Hid (ai g.heap.size m (dh d k))/\Hid (Blk m t 31 7 (λj=>d.cells.getD j default))/\Hid (Below q.heap.size q m)/\Hid (g.heap.size<=m.heap.size)) (λkv _=>d.os.n-(intOf kv).toNat)
 case atStart=>exact⟨0,Qxz _,rfl,co,ck,b8,A3⟩
 clear co ck b8 A3;obtain⟨k,hk,rfl,S,F,ay,aj⟩:=hrel;by_cases B:k<d.os.n
 .have q0:(0:Int)<=(k:Int):=by omega
  have q1:(k:Int)<(d.os.n:Int):=by omega
  obtain⟨gO,g1,g2,g3⟩:=S.out.os.list (by show 0<d.os.n;omega);have cl:d.os.a=some ⟨gO,0,none⟩:=g1;have HG:Hid ((dh d k).os.a=some ⟨gO,0,none⟩):=g1;have u1:wr.cell? ⟨t,1,none⟩=some (.slice d.os.a d.os.n d.os.c):=F.out.cell (j:=1) (by decide);rw[cl] at u1;have u2:=F.out.lt;have u3:=g3.lt;have cq:Hid (∀j,j<((dh d k).os.z k).ls.n->(0<=(((dh d k).os.z k).ls.z j).l/\(((dh d k).os.z k).ls.z j).l<=200)/\0<=(((dh d k).os.z k).ls.z j).b/\(((dh d k).os.z k).ls.z j).b<=200):=by
   show ∀j,j<(im k k (d.os.z k)).ls.n->(0<=((im k k (d.os.z k)).ls.z j).l/\((im k k (d.os.z k)).ls.z j).l<=200)/\0<=((im k k (d.os.z k)).ls.z j).b/\((im k k (d.os.z k)).ls.z j).b<=200;rw[xc _ (Nat.le_refl _)];intro j V;have e:=ac.out.os.2 k B;have hl:=er (HR.out.fm.line k (by rw[<-ac.out.os.1];exact B) j (by rw[<-e.2.1];exact V));rw[e.2.2 j V];omega
  clear g1 cl g3;go_wp2_with fail;refine(Uq (dh d k) k g.heap.size gO wr aj.out S.out B HG.out cq.out).mono ?_;rintro e w6 ⟨y,rfl,f,y1,bp,be,cz⟩;have H:Hid (ai g.heap.size w6 (dh d (k+1))/\Blk w6 t 31 7 (λj=>d.cells.getD j default)/\Below q.heap.size q w6/\g.heap.size<=w6.heap.size):=by
   refine⟨?_,cz _ _ _ _ (by decide) (by decide) F.out,ay.out.trans (be.mono A1),Qzx aj.out be.size⟩;have e:((dh d k).os.z k).k=(d.os.z k).k:=by show(im k k (d.os.z k)).k=_;rw[xc _ (Nat.le_refl _)]
   by_cases c:(d.os.z k).k=0
   .rw[<-Ta c,<-f (by rw[e];exact c)];exact bp
   rw[<-Qs c,<-y1 (by rw[e];exact c)];exact bp
  clear f y1 bp be cz S F ay aj u1 u2 u3 cq HG;go_wp2_with fail;go_roundw
  case rel=>exact⟨k+1,by omega,by go_num,H.out.1,H.out.2.1,H.out.2.2.1,H.out.2.2.2⟩
  case measure=>simp[intOf];omega
 have d3:k=d.os.n:=by omega
 subst d3;obtain⟨f,ya,yn,yc,D,av⟩:∃y:St,d.os.a=y.os.a/\d.os.n=y.os.n/\d.os.c=y.os.c/\Hid (Fm p s y g.heap.size t q y wr)/\Hid (af y (dh s s.os.n)):=⟨dh d d.os.n,rfl,rfl,rfl,⟨S.out,S.out,F.out,ay.out,aj.out⟩,by have h:=Ju ac.out d.os.n;rw[ac.out.os.1] at h ⊢;exact h⟩;have u1:wr.cell? ⟨t,1,none⟩=some (.slice d.os.a d.os.n d.os.c):=F.out.cell (j:=1) (by decide);have u2:=F.out.lt;go_wp2_with fail;rw[ya,yn,yc];rw[yn,yc] at ol;rw[yc] at oc;rw[yn] at d7;clear u1 u2 ya yn yc S F ay aj ac hk B
 go_loopw [37] (λkv m=>∃(i:Nat) (cur:St),i<=f.os.n/\kv = .int .i64 i/\Hid (Fm p s f g.heap.size t q cur m)/\Hid (zi p s i cur)) (λkv _=>f.os.n-(intOf kv).toNat)
 case atStart=>exact⟨0,f,Qxz _,rfl,D,av.out⟩
 clear D;obtain⟨i,cur,hi,rfl,D,HA⟩:=hrel;by_cases B:i<f.os.n;rotate_left
 .have eg:i=f.os.n:=by omega
  have dy:Hid (ka p s cur):=by have h:=HA.out;rw[eg,av.out.os.1] at h;exact h
  obtain⟨m1,p0,p1,p2,p3,p4,p5,p6⟩:=Boxed.of D.out.box;obtain⟨-,-,-,r,L⟩:=HC.out wr D.out.bel;have HZ:Hid (Below w.heap.size w wr/\Blk wr (w.heap.size+2) 31 7 (λ_ => .slice .none 0 0)):=⟨r,L⟩;obtain⟨zl,ce,cm,ch,zc1,cn,zc2,dc,zc3,cj,zc4,b7,zc5,ca,ci⟩:=z7 L;have en:=(HC.out _ (Below.refl _ _)).2.2.2.1.size;clear r L;go_wp2_with fail;have KZ:=s7b HZ.out.2 cur;have ah:=s7w (b:=w.heap.size+2) HZ.out.1 (by omega) cur;have bq:=s7o D.out.own HZ.out.2 cur;unfold set7 at KZ ah bq;obtain⟨br,bc,ba,bm,a1,bk,bs⟩:=df KZ;refine Xzq (v := .tuple #[cur.val,.int .i64 0]) (by simp[results,results43,go_sem,St.val,br,bc,ba,bm,a1,bk,bs]) rfl ?_;exact⟨cur,by rw[H0.out];rfl,bq.at,⟨λ_=>dy.out,λh=>absurd H0.out h⟩,λ_=>bq.mono (by omega),ah⟩
 have q0:(0:Int)<=(i:Int):=by omega
 have q1:(i:Int)<(f.os.n:Int):=by omega
 obtain⟨bo,oo,c7,eb,z0,z1,ax⟩:=D.out.own0.at.os.ods i B;have eo:=av.out.os.2 i B;have ad:i<s.os.n:=by have:=av.out.os.1;show i<s.os.n;exact this▸B
 have bb:Hid ((f.os.z i).ls.n=(s.os.z i).ls.n):=eo.2.1.trans (nd s i).symm;have aw:=hid eo.1;have eh:Hid (∀j,j<(f.os.z i).ls.n->((f.os.z i).ls.z j).n=(((dh s s.os.n).os.z i).ls.z j).n):=λj V=>by rw[eo.2.2 j V]
 have ll:=ax.le;have lc:=ax.cap;unfold maxLen at lc;have e1:(f.os.z i).ls.n<=3:=by rw[bb.out];exact(HR.out.fm.lns i ad).2
 rw[c7];clear c7 eo;obtain⟨W,hW,J⟩:∃W,wr.alloc (.cells #[.int .i64 (f.os.z i).k,.slice (f.os.z i).ls.a (f.os.z i).ls.n (f.os.z i).ls.c] 57)=W/\Below wr.heap.size wr W:=⟨_,rfl,(Below.refl _ _).alloc (Nat.le_refl _) _⟩;have HW:Hid (wr.alloc (.cells #[.int .i64 (f.os.z i).k,.slice (f.os.z i).ls.a (f.os.z i).ls.n (f.os.z i).ls.c] 57)=W):=hW;have a4:Hid (Fm p s f g.heap.size t q cur W):=D.out.below J;have Q:Hid ((f.os.z i).ls.At W):=ax.below J;clear hW ax;by_cases hk:(f.os.z i).k=1;rotate_left
 .have H:Hid (zi p s (i+1) cur):=HA.out.skip HR.out ad (by rw[<-aw.out];exact hk);have e2:((f.os.z i).k !=1)=true:=by simpa using hk
  clear hk aw
  generalize (f.os.z i).k=KK at *
  go_wp2_with fail;rw[HW.out];go_roundw
  case rel=>exact⟨i+1,cur,by omega,by go_num,a4,H⟩
  case measure=>simp[intOf];omega
 have c9:Hid (((dh s s.os.n).os.z i).k=1):=by rw[<-aw.out];exact hk
 rw[hk] at z0 HW;clear hk aw;go_wp2_with fail;rw[HW.out];clear z0 z1 eb HW q0 q1
 go_loopw [48] (λjv m=>∃(j:Nat) (u:St),j<=(f.os.z i).ls.n/\jv = .int .i64 j/\Hid (Fm p s f g.heap.size t q u m)/\Hid ((f.os.z i).ls.At m)/\Hid (xq p s i j u)) (λjv _=>(f.os.z i).ls.n-(intOf jv).toNat)
 case atStart=>exact⟨0,cur,Qxz _,rfl,a4,Q,HA.out.row⟩
 clear a4 Q D HA;obtain⟨j,u,V,rfl,D,Q,HB⟩:=hrel;by_cases bi:j<(f.os.z i).ls.n;rotate_left
 .have ee:j=(f.os.z i).ls.n:=by omega
  subst ee;have H:Hid (zi p s (i+1) u):=by have h:=HB.out;rw[bb.out] at h;exact h.next
  go_wp2_with fail;go_roundw
  case rel=>exact⟨i+1,u,by omega,by go_num,D,H⟩
  case measure=>simp[intOf];omega
 have q2:(0:Int)<=(j:Int):=by omega
 have q3:(j:Int)<((f.os.z i).ls.n:Int):=by omega
 obtain⟨bl,ob,b9,d6,y1,y2,y3,y4⟩:=Q.out.hds j bi;rw[b9];have cu:j<(s.os.z i).ls.n:=by rw[<-bb.out];exact bi
 have HQ:Hid (qt s i j=((f.os.z i).ls.z j).n):=by show qt s i j=_;rw[eh.out j bi];exact if_pos c9.out
 have db:Hid (km p (-1) u i j ((f.os.z i).ls.z j).n):=by show km _ _ _ _ _ _;rw[<-HQ.out];exact HB.out.stepIn HR.out ad cu
 have cx:Hid ((u.os.z i).k=1):=((HB.out.pos HR.out ad (Nat.le_of_lt cu)).al.kind i ad).1.trans c9.out;have cf:Hid (fc p u i j ((f.os.z i).ls.z j).n (-1)=0):=by have I:=db.out.allocIn cx.out;exact I.less ⟨I.n0,Int.le_refl _⟩
 have da:Hid (∀x,l6 p (-1) u i j ((f.os.z i).ls.z j).n x->xq p s i (j+1) x):=λx T=>HB.out.step (by rw[HQ.out];exact T);clear b9 db cx HB
 generalize (f.os.z i).ls.z j=Z at *
 obtain⟨W2,cd,ap⟩:∃W,wr.alloc (.cells #[.int .i64 Z.o,.int .i64 Z.l,.int .i64 Z.b,.int .i64 Z.n] 59)=W/\Below wr.heap.size wr W:=⟨_,rfl,(Below.refl _ _).alloc (Nat.le_refl _) _⟩;have a8:Hid (wr.alloc (.cells #[.int .i64 Z.o,.int .i64 Z.l,.int .i64 Z.b,.int .i64 Z.n] 59)=W2):=cd;have P:Hid (Fm p s f g.heap.size t q u W2):=D.out.below ap;have bg:Hid ((f.os.z i).ls.At W2):=Q.out.below ap;obtain⟨⟨⟨l1,d0,d1⟩,l2,c0,c1,c2,c3,c4,c5,c6⟩,G,E,r,L⟩:=HC.out W2 P.out.bel;obtain⟨m1,p0,p1,p2,p3,p4,p5,p6⟩:=Boxed.of P.out.box;have ct:=hid G;clear cd ap G E r L l2 c0 c1 c2 c3 c4 c5 c6 D Q;rw[<-a8.out] at l1 d0 d1 m1 p0 p1 p2 p3 p4 p5 p6;go_wp2_with fail;rw[a8.out];clear a8 l1 d0 d1 m1 p0 p1 p2 p3 p4 p5 p6 d6 y1 y2 y3 y4;refine(Lz p u i j Z.n (-1) W2 ct.out P.out.own.at).mono ?_;rintro e w8 ⟨x,rfl,ec,c8,bh,a3⟩;have HT:Hid (xq p s i (j+1) x):=da.out x (c8.1 cf.out);have ei:Hid (ai g.heap.size w8 x):=(bh cf.out).mono P.out.le;have A:Hid (Fm p s f g.heap.size t q u w8):=P.out.below a3;have eq:Hid ((f.os.z i).ls.At w8):=bg.out.below a3;have cy:=A.out.box;obtain⟨zl,ce,cm,ch,zc1,cn,zc2,dc,zc3,cj,zc4,b7,zc5,ca,ci⟩:=z7 cy;clear cy ec c8 bh a3 da P bg ct
 generalize Ct p u i j Z.n (-1)=LL at *
 generalize fc p u i j Z.n (-1)=EE at *
 simp only[St.val];go_wp2_with fail;have H:Hid (Fm p s f g.heap.size t q x (set7 w8 t (.slice x.on.a x.on.n x.on.c) (.slice x.os.a x.os.n x.os.c) (.slice x.hs.a x.hs.n x.hs.c) (.slice x.ms.a x.ms.n x.ms.c) (.slice x.si.a x.si.n x.si.c) (.slice x.so.a x.so.n x.so.c) (.slice x.sf.a x.sf.n x.sf.c))/\(f.os.z i).ls.At (set7 w8 t (.slice x.on.a x.on.n x.on.c) (.slice x.os.a x.os.n x.os.c) (.slice x.hs.a x.hs.n x.hs.c) (.slice x.ms.a x.ms.n x.ms.c) (.slice x.si.a x.si.n x.si.c) (.slice x.so.a x.so.n x.so.c) (.slice x.sf.a x.sf.n x.sf.c))):=by
  have K:=s7b A.out.box x;have hb:=s7w (b:=t) A.out.bel (Qzx A1 ed) x;refine⟨⟨s7o A.out.own0 A.out.box x,s7o ei.out A.out.box x,K.congr (λj V=>by match j,V with|0,_=>rfl|1,_=>rfl|2,_=>rfl|3,_=>rfl|4,_=>rfl|5,_=>rfl|6,_=>rfl),hb,?_⟩,?_⟩
  .have:=A.out.le
   simpa[set7] using this
  exact((s7o A.out.own0 A.out.box x).at.os.ods i B).choose_spec.choose_spec.2.2.2.2
 unfold set7 at H;go_roundw
 case rel=>exact⟨j+1,x,by omega,by go_num,H.out.1,H.out.2,HT⟩
 case measure=>simp[intOf];omega
theorem T3(x:Hd)(w:World):
  Calls prog 148 #[x.val] w λe c=>e = .returned (.bool (jy x))/\Below w.heap.size w c:=by
 have a:=(Below.refl w.heap.size w).alloc nlr (.cells #[.int .i64 x.o,.int .i64 x.l,.int .i64 x.b,.int .i64 x.n] 59);unfold Hd.val;go_enter func148,ntmps148;go_wp2_with fail;go_ret;exact⟨rfl,a⟩
theorem Vq(h:Hs)(w:World)(b:h.At w):
  Calls prog 101 #[.slice h.a h.n h.c] w λe f=>e = .returned (.bool (!ax h.n (λj=>jy (h.z j))))/\Below w.heap.size w f:=by
 go_enter func101,ntmps101;go_wp2_with fail;refine(M7 148 #[] (λj=>jy (h.z j)) _ _ _ _ b.le b.cap h.z b.hds (enters_of func148 (by kernel_rfl) rfl) (λi d _ _=>T3 (h.z i) d)).mono ?_;rintro e d ⟨rfl,g⟩;go_wp2_with fail;go_ret;exact⟨rfl,g⟩
theorem aar(p:Pl)(s:St)(order line bin n:Int)(w:World)(hp:p.At w)(hs:s.At w):
  Calls prog 45 #[p.val,s.val,.int .i64 order,.int .i64 line,.int .i64 bin,.int .i64 n] w λe w'=>∃x:St,e = .returned (.tuple #[x.val,.int .i64 (jd p s order line bin n)])/\x.At w'/\ij (jd p s order line bin n) (sj p s order.toNat line.toNat bin.toNat n) x/\(jd p s order line bin n=0->ai w.heap.size w' x)/\Below w.heap.size w w':=by
 obtain⟨J,hW,ic,X0,Z0⟩:=Cd w p s;have HC:=Bb hp hs ic X0 Z0;have HW:=hid hW;have leb:=hp.leb;have ec:=hp.capb;have les:=hp.les;have ee:=hp.caps;have capb:=ec;have caps:=ee;have jr:=Z0.lt;unfold maxLen at capb caps;have kf:=hs.os.le;have hw:=hs.os.cap;unfold maxLen at hw;clear hW X0 Z0 hp hs;unfold Pl.val St.val;go_enter func45,ntmps45;go_wp2_with fail;rw[HW.out];obtain⟨X,E,m,t,B⟩:=HC.out J brf;refine(lg p s J E m).mono ?_;rintro e Y ⟨rfl,hB⟩;clear X E m t B HW;obtain⟨⟨⟨l1,d0,d1⟩,l2,c0,c1,c2,c3,c4,c5,c6⟩,E,m,t,B⟩:=HC.out Y hB;by_cases h0:ag p s=0;rotate_left
 .have U:Hid (jd p s order line bin n=ag p s):=zz h0;have gs:Hid (¬jd p s order line bin n=0):=by show ¬_;rw[zz h0];exact h0
  have g0:(ag p s !=0)=true:=by simpa using h0
  clear h0;clear E m;obtain⟨zl,an,aq,ak,zc1,av,zc2,ay,zc3,ao,zc4,ae,zc5,aj,al⟩:=z7 B;go_wp2_with fail;exact ip results45 B t (by omega) U.out (λh=>gs.out (U.out.trans h)) rfl rfl rfl
 have H0:=hid h0;have HR:Hid (ar p s):=dp h0;rw[h0];clear h0;have ej:=hid m.hs;clear E m t B;go_wp2_with fail;refine(Tw s.hs order line bin Y ej.out).mono ?_;rintro e w2 ⟨hd,rfl,ff,e8,dc⟩;clear ej l1 d0 d1 l2 c0 c1 c2 c3 c4 c5 c6;rw[Sj HR.out.fm.hold,aa2 HR.out.fm.hold];have bb:=hB.trans (dc.mono hB.size);have A1:J.heap.size<=Y.heap.size:=hB.size;have A2:Y.heap.size<=w2.heap.size:=dc.size;have it:=hid ff;have gu:=hid e8;obtain⟨⟨⟨l1,d0,d1⟩,l2,c0,c1,c2,c3,c4,c5,c6⟩,E,m,t,B⟩:=HC.out w2 bb;clear ff e8 dc hB;by_cases T:keptV s.hs.n s.hs.z order line bin=0
 .have U:Hid (jd p s order line bin n=4):=Hr H0.out T;rw[if_pos T]
  generalize keptV s.hs.n s.hs.z order line bin=KV at *
  simp only[Hs.val];clear E m;obtain⟨zl,an,aq,ak,zc1,av,zc2,ay,zc3,ao,zc4,ae,zc5,aj,al⟩:=z7 B;go_wp2_with fail;exact ip results45 B t (by omega) U.out (by decide) rfl rfl rfl
 rw[if_neg T];cases h2:inB n 0 (keptV s.hs.n s.hs.z order line bin)
 .have U:Hid (jd p s order line bin n=3):=F2 H0.out T h2;clear T
  generalize keptV s.hs.n s.hs.z order line bin=KV at *
  simp only[Hs.val];clear E m;obtain⟨zl,an,aq,ak,zc1,av,zc2,ay,zc3,ao,zc4,ae,zc5,aj,al⟩:=z7 B;go_wp2_with(go_at_call 63;refine ah (co _ _ _ _) ?_);exact ip results45 B t (by omega) U.out (by decide) rfl rfl rfl
 obtain⟨o,l,b,rfl,rfl,rfl,hi⟩:=Nr HR.out T;have HI:=hid hi;have gd:=HI.out.good;have bd:=HI.out.bd;have nn:=au h2;have ho:=HI.out.on;have hl:=HI.out.ln;have hb:=HI.out.bn;obtain⟨g,hg⟩:∃g,bu s o l=g:=⟨_,rfl⟩;have HG:Hid (bu s o l=g):=hg;rw[hg] at gd;have gl:=gd.2;obtain⟨bo,oo,cv,ha,z0,z1,bz⟩:=m.os.ods o ho;obtain⟨bl,ol,e9,iu,y0,y1,y2,y3⟩:=bz.hds l hl;have ll:=bz.le;have lc:=bz.cap;unfold maxLen at lc;have son:=HR.out.fm.son;obtain⟨bs,os,cq,im,g9⟩:=m.so.ints g (by omega);have j2:=m.so.le;have ia:=m.so.cap;unfold maxLen at ia;have fj:=hid cq;have eu:=hid cv;rw[gd.1] at y0;rw[cv] at c1;rw[e9] at z1;rw[cq] at c5;have q0:(0:Int)<=(o:Int):=by omega
 have q1:(o:Int)<(s.os.n:Int):=by omega
 have q2:(0:Int)<=(l:Int):=by omega
 have q3:(l:Int)<((s.os.z o).ls.n:Int):=by omega
 have q4:(0:Int)<=(g:Int):=by omega
 have sg:g<s.so.n:=by omega
 have q5:(g:Int)<(s.so.n:Int):=by omega
 have sob:=HR.out.fm.sob g gl;have ja:Hid (dw s o l b=keptV s.hs.n s.hs.z o l b):=rfl;have H1:=hid T;have H2:=hid h2;have jc:1<=keptV s.hs.n s.hs.z o l b/\keptV s.hs.n s.hs.z o l b<=200:=⟨bd.1,bd.2.1⟩;clear cv e9 bz cq y1 y2 y3 z0 gd bd hi hg T son;simp only[Hs.val];by_cases h3:1048576<s.so.z g+n
 .have U:Hid (jd p s o l b n=2):=Hq H0.out H1.out H2.out (by show 1048576<s.so.z (bu s o l)+n;rw[HG.out];exact h3);have fa:1048576-s.so.z g<n:=by omega
  generalize keptV s.hs.n s.hs.z o l b=KV at *
  clear h3;clear E m;obtain⟨zl,an,aq,ak,zc1,av,zc2,ay,zc3,ao,zc4,ae,zc5,aj,al⟩:=z7 B;go_wp2_with(go_at_call 63;refine ah (co _ _ _ _) ?_);exact ip results45 B t (by omega) U.out (by decide) rfl rfl rfl
 have U:Hid (jd p s o l b n=0):=S6 H0.out H1.out H2.out (by show ¬1048576<s.so.z (bu s o l)+n;rw[HG.out];exact h3);have dh:Hid (lu p s o l b n):=by
  have h:=N4 U.out;obtain⟨-,o',l',b',e1,e2,e3,h⟩:=h;have bh:o'=o:=by omega
  have g6:l'=l:=by omega
  have i2:b'=b:=by omega
  rw[bh,g6,i2] at h;exact h
 have fa:¬1048576-s.so.z g<n:=by omega
 have fl:Hid (hd.n=(mi s.hs o l b).n/\∀j,j<hd.n->hd.z j=(mi s.hs o l b).z j):=by
  have k:=gu.out;unfold X8 at k;rw[Sj HR.out.fm.hold,if_neg (show ¬keptV s.hs.n s.hs.z o l b=0 from H1.out),if_pos rfl] at k;exact k
 have el:Hid (Calls prog 90 #[s.val] w2 λe w'=>∃s':St,e = .returned s'.val/\af s' s/\ai w2.heap.size w' s'/\Below w2.heap.size w2 w'):=ov p s w2 m HR.out.fm;obtain⟨K,hK⟩:∃K,keptV s.hs.n s.hs.z o l b=K:=⟨_,rfl⟩;have HK:Hid (dw s o l b=K):=hK;rw[hK] at jc h2 nn ⊢;clear E m t B hK h3 ja;go_wp2_with(go_at_call 63;refine ah (co _ _ _ _) ?_);rw[<-eu.out,<-fj.out];refine Calls.mono el.out ?_;rintro e S ⟨d,rfl,q,dv,b6⟩;clear el l1 d0 d1 l2 c0 c1 c2 c3 c4 c5 c6 z1 ha iu im y0 g9 h2 fa eu fj;have M:o<d.os.n:=by rw[q.os.1];exact ho
 have xk:=q.os.2 o M;have ez:l<(d.os.z o).ls.n:=by rw[xk.2.1];exact hl
 have b0:b<d.on.n:=by rw[q.on.1,HR.out.fm.sh.n];exact hb
 have iy:g<(d.on.r b).n:=by rw[(q.on.2 b b0).1,HR.out.fm.sh.len b (by rw[HR.out.fm.sh.n];exact hb)];exact gl
 have fb:g<d.so.n:=by rw[q.so.1];exact sg
 have gt:=hid q;have ew:Hid ((0<=(d.on.r b).z g/\(d.on.r b).z g<=200)/\(0<=d.so.z g/\d.so.z g<=1048576)/\(0<=((d.os.z o).ls.z l).b/\((d.os.z o).ls.z l).b<=200)/\0<=((d.os.z o).ls.z l).n/\((d.os.z o).ls.z l).n<=200):=by
  have f:=HR.out.fm;have bl:=er (f.line o ho l hl);refine⟨?_,?_,?_⟩
  .rw[q.num f hb gl];exact f.sh.num b (by rw[f.sh.n];exact hb) g gl
  .rw[q.so.2 g fb];exact f.sob g gl
  rw[q.line ho hl];omega
 have v0:=ew.out;obtain⟨A,ev,bq,K5⟩:∃W,S.alloc (.cells #[.slice d.on.a d.on.n d.on.c,.slice d.os.a d.os.n d.os.c,.slice hd.a hd.n hd.c,.slice d.ms.a d.ms.n d.ms.c,.slice d.si.a d.si.n d.si.c,.slice d.so.a d.so.n d.so.c,.slice d.sf.a d.sf.n d.sf.c] 31)=W/\Below S.heap.size S W/\Blk W S.heap.size 31 7 (λj=>(withHolds d hd).cells.getD j default):=⟨_,rfl,brf.alloc nlr _,Blk.mk' rfl rfl⟩;have ch:Hid (S.alloc (.cells #[.slice d.on.a d.on.n d.on.c,.slice d.os.a d.os.n d.os.c,.slice hd.a hd.n hd.c,.slice d.ms.a d.ms.n d.ms.c,.slice d.si.a d.si.n d.si.c,.slice d.so.a d.so.n d.so.c,.slice d.sf.a d.sf.n d.sf.c] 31)=A):=ev;have ba:=b6.trans (bq.mono b6.size);have ex:=bb.trans (ba.mono bb.size);have A3:w2.heap.size<=S.heap.size:=b6.size;have P:Hid (de Y.heap.size S.heap.size J (withHolds d hd) A):=⟨((ai.below dv bq).mono A2).withHolds (it.out.below ba),K5,ex,by have:=ba.size;omega⟩;clear ev dv K5 b6 bq ba ex q bb xk ew
 -- what lies there
 obtain⟨g0,G,a1,a2,a3,a4,a5,a6,a7,a8,a9,en,fg,ep⟩:=P.out.own.onCell b0 iy;have u0:A.cell? ⟨S.heap.size,0,none⟩=some (.slice d.on.a d.on.n d.on.c):=P.out.box.k 0;have fe:=P.out.box.lt;have eh:d.on.a=some ⟨g0,0,none⟩:=a1;have fn:A.cell? ⟨g0,b,none⟩=some (.slice (some ⟨G,0,none⟩) (d.on.r b).n (d.on.r b).c):=a3;have j6:(d.on.r b).n<=(d.on.r b).c:=a7;have jb:(d.on.r b).c<=maxLen:=a8;have ey:A.cell? ⟨G,g,none⟩=some (.int .i64 ((d.on.r b).z g)):=a9;have ju:d.on.n<=d.on.c:=fg;have gb:d.on.c<=maxLen:=ep;have cl:=en g;rw[eh] at u0;unfold maxLen at jb gb;have r0:(0:Int)<=(b:Int):=by omega
 have r1:(b:Int)<(d.on.n:Int):=by omega
 have r2:(g:Int)<((d.on.r b).n:Int):=by omega
 have fk:=P.out.own.setOn (b:=b) b0 a4 g ((d.on.r b).z g-n);have GB:Blk A G 3 (d.on.r b).n (λj => .int .i64 ((d.on.r b).z j)):=by
  obtain⟨Gq,b1,b2,b3,b4,b5⟩:=P.out.own.rows b b0;rw[a4] at b1;simp only[Qkx,Qkz,and_true] at b1;subst b1;exact b5
 have L:Hid (de Y.heap.size S.heap.size J (setOn (withHolds d hd) b g ((d.on.r b).z g-n)) (A.setCell ⟨G,g,none⟩ (.int .i64 ((d.on.r b).z g-n)))):=⟨fk,P.out.box.other (a:=⟨G,g,none⟩) (Blk.ne2 P.out.box GB (by decide)) _,P.out.bel.setCell (p:=⟨G,g,none⟩) (by show J.heap.size<=G;omega) _,by have:=P.out.le;simpa using this⟩;clear a1 eh a3 a4 a5 a7 a8 a9 en fg ep fk GB
 -- what went
 obtain⟨F,e1,e2,e3,e4,e5,e6,e7⟩:=L.out.own.so.cellAt (g:=g) fb;have bh:d.so.a=some ⟨F,0,none⟩:=e1;have u5:(A.setCell ⟨G,g,none⟩ (.int .i64 ((d.on.r b).z g-n))).cell? ⟨S.heap.size,5,none⟩=some (.slice d.so.a d.so.n d.so.c):=L.out.box.k 5;have eg:=L.out.box.lt;rw[bh] at u5;have kb:d.so.n<=d.so.c:=e4;have gr:d.so.c<=maxLen:=e5;have em:(A.setCell ⟨G,g,none⟩ (.int .i64 ((d.on.r b).z g-n))).cell? ⟨F,g,none⟩=some (.int .i64 (d.so.z g)):=e6;unfold maxLen at gr;have ei:=e7 g;have r3:(g:Int)<(d.so.n:Int):=by omega
 have GB:Blk (A.setCell ⟨G,g,none⟩ (.int .i64 ((d.on.r b).z g-n))) F 3 d.so.n (λj => .int .i64 (d.so.z j)):=by
  obtain⟨Gq,b1,b2,b3,b4,b5⟩:=L.out.own.so;have cs:d.so.a=some ⟨Gq,0,none⟩:=b1;rw[bh] at cs;simp only[Qkx,Qkz,and_true] at cs;subst cs;exact b5
 have H:Hid (de Y.heap.size S.heap.size J (setOut (setOn (withHolds d hd) b g ((d.on.r b).z g-n)) g (d.so.z g+n)) ((A.setCell ⟨G,g,none⟩ (.int .i64 ((d.on.r b).z g-n))).setCell ⟨F,g,none⟩ (.int .i64 (d.so.z g+n)))):=⟨L.out.own.setOut e1 g _,L.out.box.other (a:=⟨F,g,none⟩) (Blk.ne2 L.out.box GB (by decide)) _,L.out.bel.setCell (p:=⟨F,g,none⟩) (by show J.heap.size<=F;omega) _,by have:=L.out.le;simpa using this⟩;clear e1 bh e2 e4 e5 e6 e7 GB L
 -- the line
 obtain⟨gO,i,f1,f2,f3,f4,f5,f6,f7,f8,f9,bk,cw,ct,bw,bf⟩:=H.out.own.lineCell (o:=o) (l:=l) M ez;have ad:d.os.a=some ⟨gO,0,none⟩:=f1;have u1:((A.setCell ⟨G,g,none⟩ (.int .i64 ((d.on.r b).z g-n))).setCell ⟨F,g,none⟩ (.int .i64 (d.so.z g+n))).cell? ⟨S.heap.size,1,none⟩=some (.slice d.os.a d.os.n d.os.c):=H.out.box.k 1;have eq:=H.out.box.lt;rw[ad] at u1;have da:=hid ad;have am:Hid ((d.os.z o).ls.a=some ⟨i,0,none⟩):=f5;have fd:((A.setCell ⟨G,g,none⟩ (.int .i64 ((d.on.r b).z g-n))).setCell ⟨F,g,none⟩ (.int .i64 (d.so.z g+n))).cell? ⟨gO,o*2+1,none⟩=some (.slice (some ⟨i,0,none⟩) (d.os.z o).ls.n (d.os.z o).ls.c):=f4;have ke:(d.os.z o).ls.n<=(d.os.z o).ls.c:=f8;have hu:(d.os.z o).ls.c<=maxLen:=f9;have dx:((A.setCell ⟨G,g,none⟩ (.int .i64 ((d.on.r b).z g-n))).setCell ⟨F,g,none⟩ (.int .i64 (d.so.z g+n))).cell? ⟨i,l*4+2,none⟩=some (.int .i64 ((d.os.z o).ls.z l).b):=bw;have j7:d.os.n<=d.os.c:=H.out.own.os.le;have ht:d.os.c<=maxLen:=H.out.own.os.cap;unfold maxLen at hu ht;have db:=bk (l*4+2);have r4:(o:Int)<(d.os.n:Int):=by omega
 have r5:(l:Int)<((d.os.z o).ls.n:Int):=by omega
 obtain⟨Bq,ab,ir,-,-,be⟩:=H.out.own.os.lines o M;have Q:(d.os.z o).ls.a=some ⟨Bq,0,none⟩:=ab;rw[am.out] at Q;simp only[Qkx,Qkz,and_true] at Q;subst Q;have V:Hid (de Y.heap.size S.heap.size J (setLine (setOut (setOn (withHolds d hd) b g ((d.on.r b).z g-n)) g (d.so.z g+n)) o l 2 (((d.os.z o).ls.z l).b+n)) (((A.setCell ⟨G,g,none⟩ (.int .i64 ((d.on.r b).z g-n))).setCell ⟨F,g,none⟩ (.int .i64 (d.so.z g+n))).setCell ⟨i,l*4+2,none⟩ (.int .i64 (((d.os.z o).ls.z l).b+n)))):=⟨H.out.own.setLine (o:=o) M am.out l 2 (by decide) _,H.out.box.other (a:=⟨i,l*4+2,none⟩) (Blk.ne2 H.out.box be (by decide)) _,H.out.bel.setCell (p:=⟨i,l*4+2,none⟩) (by show J.heap.size<=i;omega) _,by have:=H.out.le;simpa using this⟩;clear f1 ad f2 f4 f5 f6 f8 f9 bk cw ct bw bf ab be H;have je:l<((setLine (setOut (setOn (withHolds d hd) b g ((d.on.r b).z g-n)) g (d.so.z g+n)) o l 2 (((d.os.z o).ls.z l).b+n)).os.z o).ls.n:=by rw[(dr o).1];exact ez
 obtain⟨jg,hj,f1,f2,g3,f4,f5,f6,g7,f8,f9,bk,cw,ct,bw,bf⟩:=V.out.own.lineCell (o:=o) (l:=l) M je;have ad:d.os.a=some ⟨jg,0,none⟩:=f1;rw[da.out] at ad;simp only[Qkx,Qkz,and_true] at ad;subst ad;rw[(dr o).2.1] at f5;have cd:(d.os.z o).ls.a=some ⟨hj,0,none⟩:=f5;rw[am.out] at cd;simp only[Qkx,Qkz,and_true] at cd;subst cd;rw[(dr o).1,(dr o).2.2] at f4;have et:(((A.setCell ⟨G,g,none⟩ (.int .i64 ((d.on.r b).z g-n))).setCell ⟨F,g,none⟩ (.int .i64 (d.so.z g+n))).setCell ⟨i,l*4+2,none⟩ (.int .i64 (((d.os.z o).ls.z l).b+n))).cell? ⟨gO,o*2+1,none⟩=some (.slice (some ⟨i,0,none⟩) (d.os.z o).ls.n (d.os.z o).ls.c):=f4;rw[pn,if_pos ⟨rfl,rfl⟩] at bf;have c8:(((A.setCell ⟨G,g,none⟩ (.int .i64 ((d.on.r b).z g-n))).setCell ⟨F,g,none⟩ (.int .i64 (d.so.z g+n))).setCell ⟨i,l*4+2,none⟩ (.int .i64 (((d.os.z o).ls.z l).b+n))).cell? ⟨i,l*4+3,none⟩=some (.int .i64 ((d.os.z o).ls.z l).n):=bf;have ce:=bk (l*4+3);have di:Hid (((setLine (setOut (setOn (withHolds d hd) b g ((d.on.r b).z g-n)) g (d.so.z g+n)) o l 2 (((d.os.z o).ls.z l).b+n)).os.z o).ls.a=some ⟨i,0,none⟩):=by show _=_;rw[(dr o).2.1];exact am.out
 obtain⟨Bq,ab,ir,-,-,be⟩:=V.out.own.os.lines o M;have Q:=ab;rw[di.out] at Q;simp only[Qkx,Qkz,and_true] at Q;subst Q;have bv:Hid (de Y.heap.size S.heap.size J (vr d hd o l b g n K) ((((A.setCell ⟨G,g,none⟩ (.int .i64 ((d.on.r b).z g-n))).setCell ⟨F,g,none⟩ (.int .i64 (d.so.z g+n))).setCell ⟨i,l*4+2,none⟩ (.int .i64 (((d.os.z o).ls.z l).b+n))).setCell ⟨i,l*4+3,none⟩ (.int .i64 (((d.os.z o).ls.z l).n+(K-n))))):=⟨V.out.own.setLine (o:=o) M di.out l 3 (by decide) _,V.out.box.other (a:=⟨i,l*4+3,none⟩) (Blk.ne2 V.out.box be (by decide)) _,V.out.bel.setCell (p:=⟨i,l*4+3,none⟩) (by show J.heap.size<=i;omega) _,by have:=V.out.le;simpa using this⟩;clear f1 f2 f4 f5 f6 f8 f9 bk cw ct bw bf ab be V;have ap:Hid (af (vr d hd o l b g n K) (cn s o l b n)):=by have h:=Ht (n:=n) gt.out HI.out fl.out.1 fl.out.2;rw[HG.out,HK.out] at h;exact h
 have yk:((vr d hd o l b g n K).os.z o).ls.n=(d.os.z o).ls.n/\((vr d hd o l b g n K).os.z o).ls.a=(d.os.z o).ls.a/\((vr d hd o l b g n K).os.z o).ls.c=(d.os.z o).ls.c:=by
  unfold vr;rw[(dr o).1,(dr o).1,(dr o).2.1,(dr o).2.1,(dr o).2.2,(dr o).2.2];exact⟨rfl,rfl,rfl⟩
 have bj:=hid yk;obtain⟨gq,T,ck,h3,h4,h5,h6⟩:=bv.out.own.orderCells (o:=o) M;have dm:d.os.a=some ⟨gq,0,none⟩:=T;rw[da.out] at dm;simp only[Qkx,Qkz,and_true] at dm;subst dm;rw[yk.1,yk.2.1,yk.2.2,am.out] at h5;have ef:Hid (Hs.At ((((A.setCell ⟨G,g,none⟩ (.int .i64 ((d.on.r b).z g-n))).setCell ⟨F,g,none⟩ (.int .i64 (d.so.z g+n))).setCell ⟨i,l*4+2,none⟩ (.int .i64 (((d.os.z o).ls.z l).b+n))).setCell ⟨i,l*4+3,none⟩ (.int .i64 (((d.os.z o).ls.z l).n+(K-n)))) ((vr d hd o l b g n K).os.z o).ls):=by
  obtain⟨_,_,_,_,_,_,h⟩:=bv.out.own.at.os.ods o M;exact h
 have fi:Hid (Calls prog 101 #[.slice (some ⟨i,0,none⟩) (d.os.z o).ls.n (d.os.z o).ls.c] ((((A.setCell ⟨G,g,none⟩ (.int .i64 ((d.on.r b).z g-n))).setCell ⟨F,g,none⟩ (.int .i64 (d.so.z g+n))).setCell ⟨i,l*4+2,none⟩ (.int .i64 (((d.os.z o).ls.z l).b+n))).setCell ⟨i,l*4+3,none⟩ (.int .i64 (((d.os.z o).ls.z l).n+(K-n)))) λe w'=>e = .returned (.bool (ko (vr d hd o l b g n K) o))/\Below ((((A.setCell ⟨G,g,none⟩ (.int .i64 ((d.on.r b).z g-n))).setCell ⟨F,g,none⟩ (.int .i64 (d.so.z g+n))).setCell ⟨i,l*4+2,none⟩ (.int .i64 (((d.os.z o).ls.z l).b+n))).setCell ⟨i,l*4+3,none⟩ (.int .i64 (((d.os.z o).ls.z l).n+(K-n)))).heap.size ((((A.setCell ⟨G,g,none⟩ (.int .i64 ((d.on.r b).z g-n))).setCell ⟨F,g,none⟩ (.int .i64 (d.so.z g+n))).setCell ⟨i,l*4+2,none⟩ (.int .i64 (((d.os.z o).ls.z l).b+n))).setCell ⟨i,l*4+3,none⟩ (.int .i64 (((d.os.z o).ls.z l).n+(K-n)))) w'):=by
  have h:=Vq ((vr d hd o l b g n K).os.z o).ls ((((A.setCell ⟨G,g,none⟩ (.int .i64 ((d.on.r b).z g-n))).setCell ⟨F,g,none⟩ (.int .i64 (d.so.z g+n))).setCell ⟨i,l*4+2,none⟩ (.int .i64 (((d.os.z o).ls.z l).b+n))).setCell ⟨i,l*4+3,none⟩ (.int .i64 (((d.os.z o).ls.z l).n+(K-n)))) ef.out;rw[bj.out.1,bj.out.2.1,bj.out.2.2,am.out] at h;have e:ko (vr d hd o l b g n K) o = !ax (d.os.z o).ls.n (λj=>jy (((vr d hd o l b g n K).os.z o).ls.z j)):=by unfold ko;rw[bj.out.1]
  rw[e];exact h
 clear yk T ck h4 h6 ef;rw[<-ch.out] at u0 fe a2 fn a6 ey cl u5 eg e3 em ei u1 eq f3 fd f7 dx db g3 et g7 c8 ce h3 h5;simp only[St.val];go_wp2_with fail;rw[ch.out];clear u0 fe a2 fn a6 ey cl u5 eg e3 em ei u1 eq f3 fd f7 dx db g3 et g7 c8 ce h3 h5 ch P;refine Calls.mono fi.out ?_;rintro e wx ⟨rfl,eo⟩;have D:=hid (bv.out.below eo);clear fi bv eo
 generalize S.heap.size=B7 at *
 have c7:Hid (ko (vr d hd o l b g n K) o=ko (cn s o l b n) o):=Fz ap.out ho;obtain⟨y,hy⟩:∃y,vr d hd o l b g n K=y:=⟨_,rfl⟩;have yo:y.os.a=d.os.a/\y.os.n=d.os.n/\y.os.c=d.os.c:=by rw[<-hy];exact⟨rfl,rfl,rfl⟩
 have du:Hid (y.os.a=some ⟨gO,0,none⟩):=by show y.os.a=_;rw[yo.1];exact da.out
 have cx:o<y.os.n:=by rw[yo.2.1];exact M
 rw[hy] at D ap c7 ⊢;clear hy yo bj;cases bx:ko y o;rotate_left
 .have hx:Hid (ko (cn s o l b n) o=true):=c7.out.symm.trans bx;clear bx;obtain⟨gq,T,ck,h3,h4,h5,h6⟩:=D.out.own.orderCells (o:=o) cx;rw[du.out] at T;simp only[Qkx,Qkz,and_true] at T;subst T;have j0:=h6 (o*2);obtain⟨gq,b1,b2,b3⟩:=D.out.own.os.list (by omega);rw[du.out] at b1;simp only[Qkx,Qkz,and_true] at b1;subst b1;have gh:gO≠B7:=Blk.ne2 b3 D.out.box (by decide);have bt:Hid (de Y.heap.size B7 J (dj y o 2) (wx.setCell ⟨gO,o*2,none⟩ (.int .i64 2))):=⟨D.out.own.kind (o:=o) cx du.out 2,D.out.box.other (a:=⟨gO,o*2,none⟩) gh.symm _,D.out.bel.setCell (p:=⟨gO,o*2,none⟩) (by show J.heap.size<=gO;omega) _,by have:=D.out.le;simpa using this⟩;have b7:Hid (af (dj y o 2) (sj p s o l b n)):=by
   unfold sj;rw[hx.out,if_pos rfl];exact Hj ap.out o 2
  generalize dj y o 2=x at bt b7
  obtain⟨m1,p0,p1,p2,p3,p4,p5,p6⟩:=Boxed.of bt.out.box;obtain⟨-,-,-,t,B⟩:=HC.out _ bt.out.bel;have HZ:=qa2 t B;obtain⟨zl,an,aq,ak,zc1,av,zc2,ay,zc3,ao,zc4,ae,zc5,aj,al⟩:=z7 B;have fp:=(HC.out _ brf).2.2.2.1.size;clear ck h5 h6 b2 b3 t B D
  generalize (y.os.z o).k=KK at *
  go_wp2_with fail;have KZ:=s7b HZ.out.2 x;have bm:=s7w (b:=w.heap.size+2) HZ.out.1 (by omega) x;have ac:=s7o bt.out.own HZ.out.2 x;unfold set7 at KZ bm ac;obtain⟨dy,dn,ci,cr,cb,dt,dz⟩:=df KZ;refine Xzq (v := .tuple #[x.val,.int .i64 0]) (by simp[results,results45,go_sem,St.val,dy,dn,ci,cr,cb,dt,dz]) rfl ?_;exact⟨x,by rw[U.out];rfl,ac.at,⟨λ_=>b7.out,λh=>absurd U.out h⟩,λ_=>ac.mono (by omega),bm⟩
 have fo:Hid (ko (cn s o l b n) o=false):=c7.out.symm.trans bx;have h7:Hid (km p b y o l (K-n)):=by have h:=(dh.out.stepIn fo.out).same ap.out;rw[HK.out] at h;exact h
 have i9:Hid ((y.os.z o).k=1):=(ap.out.os.2 o cx).1.trans ((ny s o l b n o).1.trans HI.out.kind);have c9:Hid (fc p y o l (K-n) b=0):=by have I:=h7.out.allocIn i9.out;exact I.less ⟨I.n0,Int.le_refl _⟩
 clear bx;obtain⟨⟨⟨l1,d0,d1⟩,l2,c0,c1,c2,c3,c4,c5,c6⟩,E,m,t,B⟩:=HC.out wx D.out.bel;obtain⟨m1,p0,p1,p2,p3,p4,p5,p6⟩:=Boxed.of D.out.box;have es:=hid E;clear E m t B l2 c0 c1 c2 c3 c4 c5 c6;go_wp2_with fail;clear l1 d0 d1 m1 p0 p1 p2 p3 p4 p5 p6;refine(Lz p y o l (K-n) b wx es.out D.out.own.at).mono ?_;rintro e wt ⟨x,rfl,he,e0,cp,fh⟩;have HT:Hid (l6 p b y o l (K-n) x):=e0.1 c9.out;have i5:Hid (ai Y.heap.size wt x):=(cp c9.out).mono D.out.le;have aw:=hid (D.out.below fh);have u:=aw.out.box;have bl0:=u.lt;have kj:=u.frozen 0;have kd:=u.k 0;have kh:=u.frozen 1;have j1:=u.k 1;have j8:=u.frozen 2;have j5:=u.k 2;have kk:=u.frozen 3;have kg:=u.k 3;have j3:=u.frozen 4;have j4:=u.k 4;have j9:=u.frozen 5;have ki:=u.k 5;have kc:=u.frozen 6;have ka:=u.k 6;rw[c9.out];clear he e0 cp fh es u
 generalize Ct p y o l (K-n) b=LL at *
 obtain⟨-,-,-,t,B⟩:=HC.out wt aw.out.bel;have HZ:=qa2 t B;have fp:=(HC.out _ brf).2.2.2.1.size;have g4:B7≠w.heap.size+2:=by have:=aw.out.box.lt;omega
 have KX:=s7b aw.out.box x;have cc:=mj B (λe=>g4 e.symm) (.slice x.on.a x.on.n x.on.c) (.slice x.os.a x.os.n x.os.c) (.slice x.hs.a x.hs.n x.hs.c) (.slice x.ms.a x.ms.n x.ms.c) (.slice x.si.a x.si.n x.si.c) (.slice x.so.a x.so.n x.so.c) (.slice x.sf.a x.sf.n x.sf.c);obtain⟨hm,gw,hq,i0,i7,jf,i4⟩:=df KX;have xm:=KX.lt;obtain⟨zl,an,aq,ak,zc1,av,zc2,ay,zc3,ao,zc4,ae,zc5,aj,al⟩:=z7 cc;have il:Hid (Below J.heap.size J (set7 wt B7 (.slice x.on.a x.on.n x.on.c) (.slice x.os.a x.os.n x.os.c) (.slice x.hs.a x.hs.n x.hs.c) (.slice x.ms.a x.ms.n x.ms.c) (.slice x.si.a x.si.n x.si.c) (.slice x.so.a x.so.n x.so.c) (.slice x.sf.a x.sf.n x.sf.c))):=s7w (b:=B7) aw.out.bel (by omega) x;have hf:Hid (ai Y.heap.size (set7 wt B7 (.slice x.on.a x.on.n x.on.c) (.slice x.os.a x.os.n x.os.c) (.slice x.hs.a x.hs.n x.hs.c) (.slice x.ms.a x.ms.n x.ms.c) (.slice x.si.a x.si.n x.si.c) (.slice x.so.a x.so.n x.so.c) (.slice x.sf.a x.sf.n x.sf.c)) x):=s7o i5.out aw.out.box x;have ek:=hid cc;have b7:Hid (af x (sj p s o l b n)):=by
  unfold sj;rw[fo.out,if_neg (by decide)];have tk:=zg (but:=(b:Int)) dh.out.takeIn;have T':=HT.out;rw[<-HK.out] at T';exact l6.same dh.out.takeIn ap.out tk T'
 clear t B KX cc;unfold set7 at hm gw hq i0 i7 jf i4 xm zl an ak av ay ao ae aj aq zc1 zc2 zc3 zc4 zc5 al;simp only[St.val];go_wp2_with fail;have KZ:=s7b ek.out x;have bm:=s7w (b:=w.heap.size+2) ((HC.out _ il.out).2.2.2.1) (by omega) x;have ac:=s7o hf.out ek.out x;unfold set7 at KZ bm ac;obtain⟨dy,dn,ci,cr,cb,dt,dz⟩:=df KZ;refine Xzq (v := .tuple #[x.val,.int .i64 0]) (by simp[results,results45,go_sem,St.val,dy,dn,ci,cr,cb,dt,dz]) rfl ?_;exact⟨x,by rw[U.out];rfl,ac.at,⟨λ_=>b7.out,λh=>absurd U.out h⟩,λ_=>ac.mono (by omega),bm⟩
def Gk(n:Nat)(listed:Array Bool):List Nat:=(List.range n).filter (λi => !listed.getD i true)
def phB(ops:Array Oper):List (Bool × List Nat × Option Nat)->Array Bool->Bool
 | [],listed=>Region.ready .any ops listed==[]
 | (t,ks,c) :: r,listed=>Bv ops ks listed&&ks.all (λk=>decide (k<ops.size))&&ks.all (λk => !(Gk ops.size (kc listed ks)).contains k)&&(!t||ks.all (λk=>(Gk ops.size (kc listed ks)).all (λj=>Cp ops ops.size j k))) &&
   (match c with|some c=>(Region.ready .any ops (kc listed ks)==[c])&&phB ops r ((kc listed ks).setIfInBounds c true)|none=>phB ops r (kc listed ks))
def phN:List (Bool × List Nat × Option Nat)->Nat
 | []=>0
 | (_,ks,some _) :: r=>ks.length+(phN r+1)
 | (_,ks,none) :: r=>ks.length+phN r
def Xx(P:Program)(l:List Oper)(Q:Exit->Act->World->Prop):List (Bool × List Nat × Option Nat)->Act->World->Prop
 | [],a,w=>Q .normal a w
 | (t,ks,some c) :: r,a,w=>∃S:World->Prop,S w/\(t=false->∀w',S w')/\wpQuiet P l.toArray S (λa1=>wpOp P l.toArray Q c (λa2 w2=>Xx P l Q r a2 w2) a1 w) (du l ks) a
 | (t,ks,none) :: r,a,w=>∃S:World->Prop,S w/\(t=false->∀w',S w')/\wpQuiet P l.toArray S (λa1=>Xx P l Q r a1 w) (du l ks) a
theorem Ij{P:Program}{c:Array Oper}{Q:Exit->Act->World->Prop}{S:World->Prop}{T:Nat->Bool}:∀(fuel:Nat) (b:Array Bool) (a:Act) (w:World),(∀i,b.getD i true=false->i<c.size->T i=true\/∀w,S w)->wpAny P .any c Q fuel b a w->rp P c Q S T fuel b a w
 | 0,_,_,_,_,h=>h
 | fuel+1,b,a,w,hT,h=>⟨h.1,λi hi=>wpOp_mono (λp k m=>⟨λd=>by
   obtain⟨n,o,l,_⟩:=mem_ready.1 hi;rcases hT i n (Qkq l).1 with e|e
   .rw[e] at d;cases d
   .exact e k,Ij fuel _ p k (λj f g=>hT j (by
   by_cases e:i=j
   .subst e;exact(mem_ready.1 hi).1
   rw[getD_set_ne true e] at f;exact f) g) m⟩) (h.2 i hi)⟩
theorem Mp{P:Program}{l:List Oper}{Q:Exit->Act->World->Prop}(hs:Region.noSelect l.toArray=true)(u:∀c a a' w,Q (.panic c) a w->Q (.panic c) a' w):∀(s:List (Bool × List Nat × Option Nat)) (b:Array Bool) (a:Act) (w:World),
   phB l.toArray s b=true->(s.all (λx=>(du l x.2.1).all Cz))=true->pa l.toArray b->Xx P l Q s a w->wpAny P .any l.toArray Q (phN s) b a w
 | [],b,a,w,hB,_,_,h=>⟨by simpa[phB] using hB,h⟩
 | (t,ks,c) :: r,b,a,w,hB,hv,hcl,h=>by
  simp only[phB,Xxx] at hB;obtain⟨⟨⟨⟨b1,b2⟩,b3⟩,b4⟩,b5⟩:=hB;simp only[List.all_cons,Xxx] at hv;have key:=λ(S:World->Prop) (K:Act->Prop) (f:Nat) (q:S w) (m:t=false->∀w',S w') (n:wpQuiet P l.toArray S K (du l ks) a) (E:∀a1,K a1->pa l.toArray (kc b ks)->wpAny P .any l.toArray Q f (kc b ks) a1 w)=>zh _ _ _ _ (wi (P:=P) (Q:=Q) (S:=S) (T:=λi=>t&&(Gk l.toArray.size (kc b ks)).contains i) (N:=l.toArray.size) (fuel:=f) (w:=w) hs q u ks (du l ks) b a b1
   (λk A=>⟨by
    have:=List.all_eq_true.1 b3 k A;rw[Bool.not_eq_true'] at this;rw[this,Bool.and_false],λj v=>by
    rw[Xxx] at v;have p:=b4;rw[v.1] at p;simp only[Bool.not_true,Bool.false_or] at p;exact List.all_eq_true.1 (List.all_eq_true.1 p k A) j (by simpa using v.2)⟩)
   hcl (Ei (by simpa using b2)) hv.1 n (λa1 o d=>by
    refine Ij _ _ _ _ (λi hi z => ?_) (E a1 o d);cases t with
    | false=>exact Or.inr (m rfl)
    | true =>
     left
     have:i∈Gk l.toArray.size (kc b ks):=by
      unfold Gk;rw[List.mem_filter,List.mem_range];exact⟨z,by rw[hi];rfl⟩
     simpa using this))
  cases c with
  | none =>
   obtain⟨S,q,m,n⟩:=h;exact key S _ (phN r) q m n λa1 o d=>Mp hs u r _ a1 w b5 hv.2 d o
  | some c =>
   obtain⟨S,q,m,n⟩:=h;simp only[Xxx] at b5;have g:Region.ready .any l.toArray (kc b ks)=[c]:=by simpa using b5.1
   refine key S _ (phN r+1) q m n λa1 o d => ?_;refine⟨λe=>(by rw[g] at e;cases e),λi hi => ?_⟩;have y:i=c:=by rw[g] at hi;simpa using hi
   subst y;exact wpOp_mono (λD F B=>Mp hs u r _ D F b5.2 hv.2 (d.set hi) B) o
theorem jh{l:List Oper}{a:Act}(b:List (Bool × List Nat × Option Nat))(h:Xx P l (NoPanic Q) b a w.drew)(g:P.follows .mixedOrders=true:=by kernel_rfl)(hs:Region.noSelect l.toArray=true:=by kernel_rfl)(e:phB l.toArray b (Array.replicate l.length false)=true:=by kernel_rfl)(f:(b.all (λx=>(du l x.2.1).all Cz))=true:=by kernel_rfl)(d:phN b=l.length:=by kernel_rfl):(Code.region n l.toArray true).wp P Q a w:=by
 refine wp_region_noPanic (wp_region_any g ?_);have:=Mp (Q:=NoPanic Q) hs (λc a i w h=>(h:False).elim) b _ a w.drew e f (pa.none _ _) h;rw[d] at this
 simpa using this
theorem li{l:List Oper}(k:Nat){o:Oper}{a:Act}(b:l[k]?=some o)
  (h:wpList P l.toArray (Exit.then K Q) [o] a w):wpOp P l.toArray Q k K a w:=aq k b h
def jr(A B:World):Prop:=A.heap.size<=B.heap.size/\∀(g:Nat) (cur:Array Value) (e:TypeId) (z:Nat × Nat),A.heap[g]?=some (.cells cur e z)->B.heap[g]?=A.heap[g]?
theorem jr.of{A B:World}{row:Option Nat}(a:A.grownBy B row)(c:∀r,row=some r->∃o:Obj,A.heap[r]?=some o/\o.isCells=false):jr A B :=
 ⟨a.size,λg cur e z h=>a.block g (Qkq h).1 (λk=>by
  obtain⟨o,b,hc⟩:=c g k.symm;rw[h] at b;cases b;cases hc)⟩
theorem Blk.ck{A B:World}(h:Blk A g e n f)(k:jr A B):Blk B g e n f:=by
 obtain⟨cur,hc,a⟩:=h;exact Blk.same ⟨cur,hc,a⟩ (k.2 g cur e (0,0) hc)
theorem j9.ck{A B:World}{r:Rw}(h:j9 M A r)(k:jr A B):j9 M B r:=by
 obtain⟨g,c,b,e,d,a⟩:=h;exact⟨g,c,b,e,d,a.ck k⟩
theorem fu.ck{A B:World}{size:Nat}{a:Option Addr}(h:fu M A e size a c)(k:jr A B):fu M B e size a c :=
 h.same λg cur b=>k.2 g cur e (0,0) b
theorem kq.ck{A B:World}{s:Os}(h:kq M A s)(k:jr A B):kq M B s:=by
 refine⟨h.le,h.cap,λf => ?_,λi hi => ?_,h.apart,h.room.ck k⟩
 .obtain⟨g,a,b,c⟩:=h.list f;exact⟨g,a,b,c.ck k⟩
 obtain⟨C,a,b,c,d,e⟩:=h.lines i hi;exact⟨C,a,b,c,d,e.ck k⟩
theorem cw.ck{A B:World}{s:Hs}(h:cw M e A s)(k:jr A B):cw M e B s:=by
 obtain⟨l,i,b,d⟩:=h;refine⟨l,i,b,λj => ?_⟩;obtain⟨g,c,f,a⟩:=d j;exact⟨g,c,f,a.ck k⟩
theorem ai.ck{A B:World}(h:ai M A s)(k:jr A B):ai M B s:=by
 refine⟨?_,λi hi=>(h.rows i hi).ck k,h.rapart,h.os.ck k,h.hs.ck k,h.ms.ck k,h.msr.ck k,h.si.ck k,h.so.ck k,h.sf.ck k,h.aio,h.aif,h.aof,h.ari⟩;obtain⟨g,c,b,e,d,a⟩:=h.on;exact⟨g,c,b,e,d,a.ck k⟩
theorem ai.low{e:Nat}{A:World}(h:ai M A s)(c:e<=M):ai e A s:=by
 refine⟨?_,λi hi => ?_,h.rapart,h.os.mono c,h.hs.mono c,h.ms.mono c,h.msr.mono c,?_,?_,?_,h.aio,h.aif,h.aof,h.ari⟩
 .obtain⟨g,b,a,d⟩:=h.on;exact⟨g,b,Qzx c a,d⟩
 .obtain⟨g,b,a,d⟩:=h.rows i hi;exact⟨g,b,Qzx c a,d⟩
 .obtain⟨g,b,a,d⟩:=h.si;exact⟨g,b,Qzx c a,d⟩
 .obtain⟨g,b,a,d⟩:=h.so;exact⟨g,b,Qzx c a,d⟩
 obtain⟨g,b,a,d⟩:=h.sf;exact⟨g,b,Qzx c a,d⟩
theorem jr.below{A B:World}(h:Below A.heap.size A B):jr A B:=⟨h.size,λg cur e z a=>h.block g (Qkq a).1⟩
theorem Gt{F:Fence}(w:World){y:Array Oper}{rest:List Oper}{o:Oper}{a:Act}
  (Y:o.guard=none) (s x:Operand) (t:TypeId) (f:o.op=Op.call { callee:=Callee.builtin Builtin.append,args:=#[s,x],argTypes:=#[t,t] })
  (e:TypeId) (i:TypeInfo) (z:Value) (size bytes:Nat) (J:P.underlying t=some (.slice e)) (X:P.info? e=some i) (L:i.zero=some z) (W:i.size=size) (M:i.bytes=bytes) (V:z.cells.size=size) (H:0<size)
  (p:Option Addr) (n cap:Nat) (d:List Value) (hs:a.eval s = .slice p n cap) (q:p=none->n=0/\cap=0) (B:d.length=n*size) (holds:∀b,p=some b->∀j u,d[j]?=some u->w.cell? (b.add j)=some u)
  (r:Addr) (m c:Nat) (news:List Value) (hx:a.eval x = .slice (some r) m c) (T:news.length=m*size) (hc:∀j u,news[j]?=some u->w.cell? (r.add j)=some u) (G:∀u∈news,u.oneCell'=true)
  (v:cap<n+m) (b1:n+m<=maxLen) (b2:(n+m)*bytes<=140737488355328)
  (S:∀k g,g.ownsRow w.heap.size e size k (n+m) (d++news)->w.grownBy g none->wpListIn F R P y Q rest (a.put o.dst k) g) :
  wpListIn F R P y Q (o :: rest) a w:=by
 refine wpListIn_plain Y λK A => ?_;cases p with
 | some b =>
  obtain⟨k,g,h,D,E⟩:=run_append_arg_grows (P:=P) w t o.type e i z size bytes J X L W M V H b n cap d B (holds b rfl) r m c news T hc v b1 b2;unfold Oper.wpIn;refine⟨?_,?_⟩
  .simp[Oper.about,f,resolve,Target.leads,Sem.run_pure]
  rw[Oper.semAt_plain F _ _ (by rw[f];intro c l;cases l)];simp[execOp,f,resolve,invoke,builtin,hs,hx,h,Result.andThen];exact A _ _ (S k g D E)
 | none =>
  obtain⟨rfl,rfl⟩:=q rfl;obtain rfl:d=[]:=List.eq_nil_of_length_eq_zero (by simpa using B);obtain⟨k,g,h,D,E,_⟩:=run_append_own (P:=P) w w.heap.size t o.type e i z size bytes J X L W M V H (.slice none 0 0) 0 [] (World.ownsRow_nil w _ e size) r m c news T hc G b1 b2 nlr;unfold Oper.wpIn;refine⟨?_,?_⟩
  .simp[Oper.about,f,resolve,Target.leads,Sem.run_pure]
  rw[Oper.semAt_plain F _ _ (by rw[f];intro c l;cases l)];simp[execOp,f,resolve,invoke,builtin,hs,hx,h,Result.andThen];exact A _ _ (S k g D E)
theorem Ia{F:Fence}(w:World){D:Array Oper}{rest:List Oper}{o:Oper}{a:Act}
  (hg:o.guard=none) (s x:Operand) (t:TypeId) (y:o.op=Op.call { callee:=Callee.builtin Builtin.append,args:=#[s,x],argTypes:=#[t,t] })
  (A:Nat) (e:TypeId) (i:TypeInfo) (z:Value) (size bytes:Nat) (h1:P.underlying t=some (.slice e)) (h2:P.info? e=some i) (h3:i.zero=some z) (X:i.size=size) (U:i.bytes=bytes) (W:z.cells.size=size) (T:0<size)
  (l:Option Addr) (n c:Nat) (xs:List Value) (hs:a.eval s = .slice l n c) (p:fu A w e size l c) (V:n<=c) (S:c<=maxLen) (B:xs.length=n*size) (J:0<n->∃g,l=some ⟨g,0,none⟩/\A<=g/\Blk w g e (n*size) (λj=>xs.getD j default))
  (r:Addr) (m K:Nat) (news:List Value) (hx:a.eval x = .slice (some r) m K) (hn:news.length=m*size) (hc:∀j u,news[j]?=some u->w.cell? (r.add j)=some u) (v:∀u∈news,u.oneCell'=true)
  (hm:0<m) (b1:n+m<=maxLen) (b2:(n+m)*bytes<=140737488355328) (hA:A<=w.heap.size)
  (hK:∀f d,d.ownsRow A e size f (n+m) (xs++news)->qn A e w d->wpListIn F R P D Q rest (a.put o.dst f) d) :
  wpListIn F R P D Q (o :: rest) a w:=by
 rcases p with h0|⟨g,cur,ha,E,G,ak⟩
 .subst h0;have ai:n=0:=by omega
  subst ai;obtain rfl:xs=[]:=List.eq_nil_of_length_eq_zero (by simpa using B);refine Gt w hg s x t y e i z size bytes h1 h2 h3 X U W T l 0 0 [] hs (λ_=>⟨rfl,rfl⟩) (by simp) (λb _ j u hj=>by simp at hj) r m K news hx hn hc v (by omega) b1 b2 λf d H L => ?_;exact hK f d (Qo H hA) ⟨none,L,λk q=>by cases q⟩
 subst ha;have M:=Pc (w:=w) (e:=e) E G ak V S B (λh=>by
  obtain⟨g',Y,_,hb⟩:=J h;simp only[Qkx,Qkz,and_true] at Y;subst Y;exact hb)
 refine wpListIn_append_own w hg s x t y A e i z size bytes h1 h2 h3 X U W T _ n xs hs M r m K news hx hn hc v b1 b2 hA λf d H L _ => ?_;refine hK f d H ⟨_,L,λk q => ?_⟩;simp only[Value.ownBlock,Qkx] at q;subst q;exact⟨E,cur,G⟩
theorem qn.keeps{b:World}(h:qn A e w b):KeepsOthers w b:=by
 obtain⟨row,c,g⟩:=h;refine⟨c.size,λk o a f => ?_⟩;refine(c.block k (Qkq a).1 λd => ?_).trans a;obtain⟨_,cur,hc⟩:=g k d.symm;rw[a] at hc;cases hc;cases f
theorem ai.addM{m:Hd}(h:ai A w s)(f:d.ownsRow A 63 4 v (s.ms.n+1) (ay s.ms.n s.ms.z++dc m))(g:qn A 63 w d):
  ∃k:Hs,v = .slice k.a k.n k.c/\ai A d (withMoves s k)/\k.n=s.ms.n+1/\(∀j,j<s.ms.n->k.z j=s.ms.z j)/\k.z s.ms.n=m:=by
 have l:ay s.ms.n s.ms.z++dc m=ay (s.ms.n+1) (λi=>if i=s.ms.n then m else s.ms.z i):=by
  rw[tw,if_pos rfl,ot (z':=λi=>if i=s.ms.n then m else s.ms.z i) λi hi=>by rw[if_neg (by omega)]]
 have b:=f;rw[l] at b;obtain⟨k,rfl,ok,kn,e⟩:=cw.ofRow b nlr;refine⟨k,rfl,h.moreM g ok ?_,kn,λj o=>by rw[e];exact if_neg (by omega),by rw[e];exact if_pos rfl⟩;exact fu.ofOwns (a:=k.a) (n:=k.n) (c:=k.c) f nlr
theorem j9.keepM{b:World}{r:Rw}(h:j9 A w r)(d:Blk w g 63 n f)(K:ir g w b):j9 A b r:=by
 obtain⟨q,e,c,j,i,a⟩:=h;exact⟨q,e,c,j,i,K.blk a (Blk.ne2 a d (by decide))⟩
theorem cw.keepM{t:TypeId}{b:World}{s:Hs}(h:cw A t w s)(j:Blk w g 63 n f)(c:t≠63)(K:ir g w b):cw A t b s:=by
 obtain⟨i,m,k,l⟩:=h;refine⟨i,m,k,λo => ?_⟩;obtain⟨q,d,e,a⟩:=l o;exact⟨q,d,e,K.blk a (Blk.ne2 a j c)⟩
theorem kq.keepM{j:World}{s:Os}(h:kq A w s)(c:Blk w g 63 n f)(K:ir g w j):kq A j s:=by
 refine⟨h.le,h.cap,λo => ?_,λi hi => ?_,h.apart,?_⟩
 .obtain⟨q,a1,d,a⟩:=h.list o;exact⟨q,a1,d,K.blk a (Blk.ne2 a c (by decide))⟩
 .obtain⟨C,a1,d,a,m,k⟩:=h.lines i hi;exact⟨C,a1,d,a,m,K.blk k (Blk.ne2 k c (by decide))⟩
 refine h.room.same λq cur b=>K.2 q (Qkq b).1 λe => ?_;obtain⟨c2,l,_⟩:=c;rw[e,l] at b;cases b
theorem ai.keepM{h:Hs}(k:ai A w s)(b:Blk w g 63 n f)(K:ir g w d)(j:cw A 63 d h)(p:fu A d 63 4 h.a h.c):ai A d (Go.Proofs.YtbcacebifpagpagGreat.withMoves s h):=by
 refine⟨?_,λi hi=>(k.rows i hi).keepM b K,k.rapart,k.os.keepM b K,k.hs.keepM b (by decide) K,j,p,k.si.keepM b K,k.so.keepM b K,k.sf.keepM b K,k.aio,k.aif,k.aof,k.ari⟩;obtain⟨q,m,a1,l,o,e⟩:=k.on;exact⟨q,m,a1,l,o,K.blk e (Blk.ne2 e b (by decide))⟩
theorem Lo(w:World)(g:TypeId)(b o n c:Nat)(q:0<n)(hc:∀j,j<n*4->(w.cell? ⟨b,o+j,none⟩).isSome=true)(h:∀j,j<n*4->w.frozen? ⟨b,o+j,none⟩=false):
  (Builtin.clear_ #[29] g #[.slice (some ⟨b,o,none⟩) n c]).run prog w = .ok (.tuple #[]) (w.setCells b o (List.replicate (n*4) (.int .i64 0))):=by
 have d:(Builtin.zeroCells (Value.agg #[.int .i64 0,.int .i64 0,.int .i64 0,.int .i64 0]).cells n).toList=List.replicate (n*4) (.int .i64 0):=by
  rw[show(Value.agg #[.int .i64 0,.int .i64 0,.int .i64 0,.int .i64 0]).cells=#[.int .i64 0,.int .i64 0,.int .i64 0,.int .i64 0] from rfl]
  apply List.ext_getElem
  .simp[Builtin.zeroCells]
  intro i l p;have f:i%4<4:=by omega
  simp[Builtin.zeroCells]
  generalize i%4=k at f
  match k,f with
  | 0,_=>rfl
  | 1,_=>rfl
  | 2,_=>rfl
  | 3,_=>rfl
 have a:=run_storeCells_cells (P:=prog) b o (List.replicate (n*4) (.int .i64 0)) 0 w (by simpa using hc) (by simpa using h) (by intro v e;rw[List.eq_of_mem_replicate e];rfl);simp only[Nat.add_zero] at a;obtain⟨m,rfl⟩:∃m,n=m+1:=⟨n-1,by omega⟩;simp only[Builtin.clear_];simp[d,a]
theorem Ec:(prog.info? 63).map (λi=>(i.zero,i.size,i.bytes))=some (some (.agg #[.int .i64 0,.int .i64 0,.int .i64 0,.int .i64 0]),4,32):=by kernel_rfl
theorem G7{g:Nat}{e:TypeId}{m:Nat}:∀(a:List Value) (o:Nat) (w:World),(∃cur,w.heap[g]?=some (.cells cur e (0,0))/\cur.size=m)->∃cur,(w.setCells g o a).heap[g]?=some (.cells cur e (0,0))/\cur.size=m
 | [],_,_,h=>h
 | v :: r,o,w,h=>by
  rw[World.setCells];refine G7 r (o+1) _ ?_;obtain⟨cur,c,b⟩:=h;exact⟨cur.setIfInBounds o v,by simp[World.setCell,Array.getElem?_modify,c],by simpa using b⟩
theorem xt(g q j:Nat):(⟨g,q,none⟩:Addr).add j=⟨g,q+j,none⟩:=by
 unfold Addr.add
 split<;>simp_all
theorem aal(A g n c k:Nat)(z:Nat->Hd)(w:World)(K:A<=g)(L:A<=w.heap.size)(hn:n<=c)(E:c<=maxLen)(hk:k<n)(cur:Array Value)(S:w.heap[g]?=some (.cells cur 63 (0,0)))(Q:cur.size=c*4)(r:Blk w g 63 (n*4) (λj=>(ay n z).getD j default)):
  Calls prog 104 #[.slice (some ⟨g,0,none⟩) n c,.int .i64 (k:Int),.int .i64 ((k:Int)+1)] w λe b=>e = .returned (.slice (some ⟨g,0,none⟩) (n-1) c)/\Blk b g 63 ((n-1)*4) (λj=>(ay (n-1) (fw z k)).getD j default)/\(∃a,b.heap[g]?=some (.cells a 63 (0,0))/\a.size=c*4)/\Below A w b/\ir g w b:=by
 have v:=E;unfold maxLen at E;obtain⟨iM,Y,ax,P,au⟩:=info_parts Ec;have H:=qa3 r S Q;clear r S Q;have k0:(0:Int)<=(k:Int):=by omega
 have k1:(k:Int)+1<=(n:Int):=by omega
 have k2:((k:Int)+1).toNat=k+1:=by omega
 have k3:((k:Int)==(k:Int)+1)=false:=beq_eq_false_iff_ne.2 (by omega);go_enter func104,ntmps104;go_wp2_with fail;have y:Hid (Below w.heap.size w w.drew/\w.drew.heap=w.heap):=⟨brf.drew,rfl⟩;refine jh [(true,[0,1,2,3,4,5],some 6),(false,[7],none)] ?_;refine⟨λb=>∃p:Regrown,b=grow (redrawn w p.d) p.os,Qqx (brf.drew),λh=>(by cases h),?_⟩;simp only[du,Qyq,Xqq,Qyx,Qyz,Xqz,Xqx];have x:Hid (∀J,J=c->w.drew.ownsRow A 63 4 (.slice (some ⟨g,0,none⟩) k J) k (ay k z)):=λJ X=>by
  subst X;refine Pc (w:=w.drew) (cur:=cur) K H.out.2.1 H.out.2.2 (by omega) v (eu _ _) λh => ?_;have r:=H.out.1.below y.out.1;refine(r.less (by omega)).congr λj f => ?_;rw[ws (by omega),ws (by omega)]
 have F:Hid (∀j u,(ay (n-(k+1)) (λj=>z (k+1+j)))[j]?=some u->w.drew.cell? ⟨g,(k+1)*4+j,none⟩=some u):=λj u f=>by
  have hl:j<(n-(k+1))*4:=by
   have:=(List.getElem?_eq_some_iff.1 f).1;rw[eu] at this;exact this
  have r:=H.out.1.below y.out.1;have h1:=r.cell (j:=(k+1)*4+j) (by omega);rw[h1,ws (by omega)];have h2:(ay (n-(k+1)) (λj=>z (k+1+j))).getD j default=u:=by simp[List.getD,f]
  rw[<-h2,ws hl];unfold hc;rw[show((k+1)*4+j)/4=k+1+j/4 by omega,show((k+1)*4+j)%4=j%4 by omega]
 have B:Hid (∀b,b.ownsRow A 63 4 (.slice (some ⟨g,0,none⟩) (n-1) c) (n-1) (ay k z++ay (n-(k+1)) (λj=>z (k+1+j)))->w.drew.grownBy b (some g)->
   (∀t,(Builtin.clear_ #[29] t #[.slice (some ⟨g,(n-1)*4,none⟩) 1 (c-(n-1))]).run prog b = .ok (.tuple #[]) (b.setCells g ((n-1)*4) (List.replicate (1*4) (.int .i64 0)))) /\
   ∀i,i=b.setCells g ((n-1)*4) (List.replicate (1*4) (.int .i64 0))->Blk i g 63 ((n-1)*4) (λj=>(ay (n-1) (fw z k)).getD j default)/\(∃a,i.heap[g]?=some (.cells a 63 (0,0))/\a.size=c*4)/\Below A w i/\ir g w i):=λb m T=>by
  obtain⟨_,⟨h,_⟩|⟨g',J,a,h,aw,D,h1,h2,h3,h4⟩⟩:=m
  .cases h
  simp only[Value.slice.injEq,Qkx,Qkz,and_true,true_and] at h;obtain⟨rfl,rfl⟩:=h;have av:(n-1)*4+4<=a.size:=by rw[h3];omega
  have M:Blk b g 63 a.size (λj=>a.getD j default):=⟨a,D,Nat.le_refl _,λj f=>by simp[Array.getD,f]⟩;have r:Blk b g 63 ((n-1)*4) (λj=>(ay (n-1) (fw z k)).getD j default):=by
   refine⟨a,D,by omega,λj f => ?_⟩;rw[vk n z k hk,<-h4];have e:(a.toList.take ((n-1)*4))[j]?=a[j]?:=by rw[List.getElem?_take,if_pos f];simp
   have e2:j<a.size:=by omega
   simp only[List.getD,e];simp[e2]
  have ac:ir g w b:=⟨by have:=T.size;exact this,λq hq ag=>T.block q hq (λe=>ag (by cases e;rfl))⟩;have ah:Below A w b:=(y.out.1.mono L).grown T L (λq e=>by cases e;exact K);refine⟨λt=>Lo b t g ((n-1)*4) 1 (c-(n-1)) (by omega) (λj f=>by rw[M.cell (by omega)];rfl) (λj _=>M.frozen _),λi e => ?_⟩;subst e;exact⟨Blk.setCells _ _ _ r nlr,G7 _ _ _ ⟨a,D,h3⟩,zr K _ _ _ ah,ac.cells _ _ _⟩
 clear K v y H;by_cases W:c=k+1;rotate_left
 .repeat(go_big_quiet_step(fail))
  refine Qqz ?_
  generalize w.drew=U at *
  refine li 6 rfl ?_
  (refine wpList_append_fits_any U rfl (.tmp 22) (.tmp 25) 29 rfl A 63 iM 4 underlying29 Y P g k c (ay k z) rfl (x.out c rfl) (some ⟨g,(k+1)*4,none⟩) (n-(k+1)) (c-(k+1)) (ay (n-(k+1)) (λj=>z (k+1+j))) rfl (eu _ _) (λe=>by cases e) (λad e j u f=>by cases e;rw[xt];exact F.out j u f) (mw _ _) (by omega) ?_)
  intro i m o;rw[show k+(n-(k+1))=n-1 by omega] at m ⊢;obtain⟨G,l⟩:=B.out i m o;have s:Hid _:=l;clear m o B x F l;simp only[Act.put,Qvq,Qwx,Qwz];refine(?_:wpList _ _ _ [] _ _);go_wp2_with fail;refine⟨λ_=>True,trivial,λ_ _=>trivial,?_⟩;simp only[du,Qyq,Xqq,Qyx,Qyz,Xqz,Xqx]
  repeat(go_big_quiet_step(fail))
  refine Qqz ?_;refine NoPanic.normal ?_;have ai:¬c=n-1:=by omega
  have V:(n-1)<=n:=by omega
  have aj:n-(n-1)=1:=by omega
  go_wp2_with fail;go_ret;exact⟨rfl,s.out _ rfl⟩
 subst W;obtain rfl:n=k+1:=by omega
 repeat(go_big_quiet_step(fail))
 refine Qqz ?_
 generalize w.drew=U at *
 refine li 6 rfl ?_
 (refine wpList_append_fits_any U rfl (.tmp 22) (.tmp 25) 29 rfl A 63 iM 4 underlying29 Y P g k (k+1) (ay k z) rfl (x.out (k+1) rfl) (some ⟨g,0,none⟩) 0 0 [] rfl rfl (λe=>by cases e) (λad e j u f=>by cases f) (λu hu=>by cases hu) (by omega) ?_)
 intro i m o;rw[show k+0=k+1-1 by omega] at m ⊢;obtain⟨G,l⟩:=B.out i (by rw[show k+1-(k+1)=0 by omega];exact m) o;have s:Hid _:=l;have ak:∀t,(Builtin.clear_ #[29] t #[.slice (some ⟨g,k*4,none⟩) 1 1]).run prog i = .ok (.tuple #[]) (i.setCells g (k*4) (List.replicate (1*4) (.int .i64 0))):=λt=>by
  have h:=G t;rw[show k+1-1=k by omega,show k+1-k=1 by omega] at h;exact h
 clear G;clear m o B x F l;simp only[Act.put,Qvq,Qwx,Qwz];refine(?_:wpList _ _ _ [] _ _);go_wp2_with fail;refine⟨λ_=>True,trivial,λ_ _=>trivial,?_⟩;simp only[du,Qyq,Xqq,Qyx,Qyz,Xqz,Xqx]
 repeat(go_big_quiet_step(fail))
 refine Qqz ?_;refine NoPanic.normal ?_;have ai:¬k+1=k+1-1:=by omega
 have V:(k+1-1)<=k+1:=by omega
 have aj:k+1-(k+1-1)=1:=by omega
 go_wp2_with fail;go_ret;exact⟨rfl,s.out _ rfl⟩
theorem aak(A:Nat)(s:St)(k:Nat)(w:World)(v:A<=w.heap.size)(o:ai A w s)(K:k<s.ms.n):
  Calls prog 104 #[.slice s.ms.a s.ms.n s.ms.c,.int .i64 (k:Int),.int .i64 ((k:Int)+1)] w λe i=>e = .returned (.slice s.ms.a (s.ms.n-1) s.ms.c)/\ai A i (withMoves s (C3 s.ms k))/\Below A w i/\(∀q t m g,t≠63->Blk w q t m g->Blk i q t m g):=by
 obtain⟨F,D,G,L⟩:=o.ms;obtain⟨g,d,j,h⟩:=L (by omega);rcases o.msr with S|⟨Q,cur,b,M,E,B⟩
 .omega
 rw[d] at b;simp only[Qkx,Qkz,and_true] at b;subst b;have H:=aal A g s.ms.n s.ms.c k s.ms.z w j v F D K cur E B h;rw[d];refine H.mono ?_;rintro e P ⟨rfl,p,⟨l,r,y⟩,J,x⟩;refine⟨rfl,o.keepM h x ⟨by show s.ms.n-1<=s.ms.c;omega,D,G,λ_=>⟨g,d,j,p⟩⟩ (Or.inr ⟨g,l,d,j,r,y⟩),J,λq t m f' u f=>x.blk f (Blk.ne2 f h u)⟩
theorem Dj{size:Nat}(h:w.ownsRow A e size v n xs){k:Nat}(a:v.ownBlock=some k):A<=k:=by
 obtain⟨_,⟨rfl,_⟩|⟨g,cap,cur,rfl,b,_⟩⟩:=h
 .cases a
 simp only[Value.ownBlock,Qkx] at a;omega
theorem ai.withM{h:Hs}(k:ai A w s)(b:cw A 63 w h)(d:fu A w 63 4 h.a h.c):ai A w (withMoves s h):=
 ⟨k.on,k.rows,k.rapart,k.os,k.hs,b,d,k.si,k.so,k.sf,k.aio,k.aif,k.aof,k.ari⟩
theorem jj.flat(h:jj w (some ⟨b,o,none⟩) n z){m:Nat}(t:q+m<=n){u:Value}(a:(ay m (λx=>z (q+x)))[j]?=some u):w.cell? ⟨b,o+q*4+j,none⟩=some u:=by
 have p:j<m*4:=by
  have:=(List.getElem?_eq_some_iff.1 a).1;rw[eu] at this;exact this
 obtain⟨i,c,rfl,hc⟩:∃i c,j=i*4+c/\c<4:=⟨j/4,j%4,by omega,by omega⟩;rw[xv m _ i c (by omega) hc] at a;obtain⟨r,s,e,_,f,d,l,g⟩:=h (q+i) (by omega);simp only[Qkx,Qkz,and_true] at e;obtain⟨rfl,rfl⟩:=e;have k:o+q*4+(i*4+c)=o+(q+i)*4+c:=by omega
 rw[k,<-a]
 match c,hc with
 | 0,_=>exact f
 | 1,_=>exact d
 | 2,_=>exact l
 | 3,_=>exact g
theorem ai.rowBlk(h:ai A w s){G:Nat}(d:b<s.on.n)(c:(s.on.r b).a=some ⟨G,0,none⟩):A<=G/\Blk w G 3 (s.on.r b).n (λj => .int .i64 ((s.on.r b).z j)):=by
 obtain⟨e,b1,b2,b3,b4,b5⟩:=h.rows b d;rw[c] at b1;simp only[Qkx,Qkz,and_true] at b1;subst b1;exact⟨b2,b5⟩
theorem de.setOn{f:Nat}{c e:World}{cur:St}(h:de A f c cur e)(k:c.heap.size<=A){G:Nat}(d:b<cur.on.n)(i:(cur.on.r b).a=some ⟨G,0,none⟩)(g:Nat)(v:Int):de A f c (Go.Proofs.YtbcacebifpagpagGreat.setOn cur b g v) (e.setCell ⟨G,g,none⟩ (.int .i64 v)):=by
 obtain⟨l,j⟩:=h.own.rowBlk d i;exact⟨h.own.setOn d i g v,h.box.other (a:=⟨G,g,none⟩) (Blk.ne2 h.box j (by decide)) _,h.bel.setCell (p:=⟨G,g,none⟩) (by show c.heap.size<=G;omega) _,by have:=h.le;simpa using this⟩
theorem de.moves{f i:World}{cur:St}(h:de A b f cur i)(r:f.heap.size<=A)(u:A<=b){e:World}{m:Hs}(s:ai A e (withMoves cur m))(k:Below A i e)(o:∀q t n g,t≠63->Blk i q t n g->Blk e q t n g):de A b f (withMoves cur m) (e.setCell ⟨b,3,none⟩ (.slice m.a m.n m.c)):=by
 have d:=o _ _ _ _ (by decide) h.box;refine⟨s.box d 3 _,(d.set 3 _).congr λj l => ?_,(h.bel.trans (k.mono r)).setCell (p:=⟨b,3,none⟩) (by show f.heap.size<=b;omega) _,by have:=k.size;have:=h.le;simp;omega⟩
 match j,l with
 | 0,_=>rfl
 | 1,_=>rfl
 | 2,_=>rfl
 | 3,_=>rfl
 | 4,_=>rfl
 | 5,_=>rfl
 | 6,_=>rfl
theorem de.more{d:Nat}{g i e:World}{m:Hd}(h:de A d g x i)(o:g.heap.size<=A)(s:A<=d)(r:e.ownsRow A 63 4 v (x.ms.n+1) (ay x.ms.n x.ms.z++dc m))(f:qn A 63 i e):
  ∃k:Hs,v = .slice k.a k.n k.c/\de A d g (withMoves x k) (e.setCell ⟨d,3,none⟩ (.slice k.a k.n k.c))/\k.n=x.ms.n+1/\(∀j,j<x.ms.n->k.z j=x.ms.z j)/\k.z x.ms.n=m/\Blk e d 31 7 (λj=>x.cells.getD j default):=by
 obtain⟨k,rfl,ok,kn,q,kl⟩:=h.own.addM r f;have b:=f.blk h.box (by decide);refine⟨k,rfl,⟨ok.box b 3 _,(b.set 3 _).congr λj l => ?_,(f.below h.bel o h.bel.size).setCell (p:=⟨d,3,none⟩) (by show g.heap.size<=d;omega) _,?_⟩,kn,q,kl,b⟩
 .match j,l with
  | 0,_=>rfl
  | 1,_=>rfl
  | 2,_=>rfl
  | 3,_=>rfl
  | 4,_=>rfl
  | 5,_=>rfl
  | 6,_=>rfl
 have t:=(f.below (Below.refl A i) nlr h.le).size;have:=h.le;simp;omega
theorem ab6(w:World)(Z:Hd)(e:TypeId):∀j u,(dc Z)[j]?=some u->(w.alloc (.cells #[.int .i64 Z.o,.int .i64 Z.l,.int .i64 Z.b,.int .i64 Z.n] e)).cell? ((⟨w.heap.size,0,none⟩:Addr).add j)=some u:=by
 intro j u c;rw[xt,Nat.zero_add];have K:=Blk.new w #[.int .i64 Z.o,.int .i64 Z.l,.int .i64 Z.b,.int .i64 Z.n] e;have a:j<4:=(List.getElem?_eq_some_iff.1 c).1;rw[K.cell (j:=j) a,<-c]
 match j,a with
 | 0,_=>rfl
 | 1,_=>rfl
 | 2,_=>rfl
 | 3,_=>rfl
attribute [local go_sem] Oper.semAt_some
theorem Yj(F:Fence)(n:Nat)(h6:F.fn 149)(V:F.round=none)(hn:1<=n)(l P d j:Nat)(p:Pl)(f:Bool)(J T:List (Ac p f)->World->Prop)
  (hY:∀pre x W,J pre W->pre.length<p.nb->YieldAt F (n-1) prog l #[.int .i64 (x.1:Int)] W λe a =>
   (e = .returned (.bool true)/\J (pre++[x]) a/\A9 j d W a)\/(e = .returned (.bool false)/\T (pre++[x]) a))
  (W:World) (hJ:AbidesFrom W.heap.size J) (B:j<=W.heap.size) (ak:W.cell? ⟨P,0,none⟩=some (.slice p.ab p.nb p.cb)) (X:W.cell? ⟨d,0,none⟩=some (.bool f)) (aj:p.nb<=p.cb) (L:p.cb<=maxLen)
  (hL:∀a,Below j W a->tu a p.ab p.nb p.zb) (h0:J [] W) :
  CallsIn F n prog 149 #[.func (.yield l) #[] #[],.pointer (some ⟨P,0,none⟩),.pointer (some ⟨d,0,none⟩)] W λe a=>(∃v,e = .returned v) /\
   ((∃ys,ys=frX p f p.nb/\J ys a)\/(∃pre,pre <+: frX p f p.nb/\T pre a)):=by
 unfold maxLen at L;have hS:Hid (∀wr,Below j W wr->W.heap.size<=wr.heap.size):=λwr h=>h.size;have D:Hid (∀pre A o,J pre A->J pre (A.alloc o)):=λpre A o h=>hJ pre A (A.alloc o) none h (World.grownBy_alloc A o none) (λr e=>by cases e);refine callsIn_of_wp func149 rfl h6 ?_ V;simp only[ntmps149,List.size_toArray,List.length_cons,List.length_nil,Nat.reduceAdd,Nat.reduceSub,Array.replicate_succ,Array.replicate_zero,List.push_toArray,List.append_toArray,Xqx,Xqz]
 gi_wp2
 gi_loopw [9] (λi wr=>∃k:Nat,k<=p.nb/\i = .int .i64 k/\J (frX p f k) wr/\Below j W wr/\wr.cell? ⟨d,0,none⟩=some (.bool f)) (λi _=>p.nb-(intOf i).toNat)
 case atStart=>exact⟨0,Qxz _,rfl,h0,Below.refl _ _,X⟩
 obtain⟨k,hk,rfl,m,w,u⟩:=hrel;by_cases g:k<p.nb;rotate_left
 .gi_wp2
  go_end0
  have Q:k=p.nb:=by omega
  subst Q;exact⟨⟨_,rfl⟩,.inl ⟨_,rfl,m⟩⟩
 obtain⟨b,o,H,hb,z0,z1,z2,z3⟩:=hL _ w k g;have m1:(0:Int)<=(k:Int):=by omega
 have t:d<wr.heap.size:=World.block_lt_of_cell? wr _ u;have ai:=acp p f k;rw[H];clear H;by_cases y:(p.zb k).front=f;rotate_left
 .have c:=D.out _ wr (.cells #[.bool (p.zb k).front,.int .i64 (p.zb k).room,.int .i64 (p.zb k).low,.int .i64 (p.zb k).high] 68) m;rw[<-L6 y] at c;have z:=w.alloc (Qzx B (hS.out wr w)) (.cells #[.bool (p.zb k).front,.int .i64 (p.zb k).room,.int .i64 (p.zb k).low,.int .i64 (p.zb k).high] 68);have E:=(((Below.refl wr.heap.size wr).alloc nlr (.cells #[.bool (p.zb k).front,.int .i64 (p.zb k).room,.int .i64 (p.zb k).low,.int .i64 (p.zb k).high] 68)).cell (p:=⟨d,0,none⟩) t).trans u;have K:=qa3 c z E;clear c z E
  gi_wp2
  refine⟨λ_ h=>(by cases h),?_⟩
  gi_wp2
  go_roundw
  case rel=>exact⟨k+1,by omega,by go_num,K.out.1,K.out.2.1,K.out.2.2⟩
  case measure=>simp[intOf];omega
 rw[y] at z0;have c:=D.out _ wr (.cells #[.bool f,.int .i64 (p.zb k).room,.int .i64 (p.zb k).low,.int .i64 (p.zb k).high] 68) m;obtain⟨fn,tmps,assign,body,hy,M⟩:=hY (frX p f k) ⟨k,g,y⟩ _ c (by omega)
 gi_wp2
 refine M.mono ?_;rintro e U (⟨rfl,G,q⟩|⟨rfl,s⟩)
 .have S:Below j W U:=(w.alloc (Qzx B (hS.out wr w)) _).trans q.1;have Y:U.cell? ⟨d,0,none⟩=some (.bool f):=q.2 _ ((((Below.refl wr.heap.size wr).alloc nlr _).cell (p:=⟨d,0,none⟩) t).trans u);rw[<-Gg ⟨g,y⟩] at G;clear q M
  gi_wp2
  go_roundw
  case rel=>exact⟨k+1,by omega,by go_num,G,S,Y⟩
  case measure=>simp[intOf];omega
 rw[<-Gg ⟨g,y⟩] at s
 gi_wp2
 refine Xzq (results_none rfl _ _ _) rfl ?_;exact⟨⟨_,rfl⟩,.inr ⟨frX p f (k+1),Wk p f (by omega),s⟩⟩
theorem Ku(F:Fence)(n:Nat)(u:F.fn 149)(q:F.round=none)(A:1<=n)(b a c:Nat)(p:Pl)(f:Bool)(w:World)(m:b<w.heap.size)(j:a<w.heap.size)(g:c<=w.heap.size)
  (r:w.cell? ⟨b,0,none⟩=some (.slice p.ab p.nb p.cb)) (o:w.cell? ⟨a,0,none⟩=some (.bool f)) (k:p.nb<=p.cb) (i:p.cb<=maxLen) (t:∀d,Below c w d->tu d p.ab p.nb p.zb) :
  SeqStopsK F n prog 149 #[.pointer (some ⟨b,0,none⟩),.pointer (some ⟨a,0,none⟩)] (λx:Ac p f=>#[Value.int .i64 (x.1:Int)]) (A9 c a) (λys=>ys=frX p f p.nb) (λpre=>pre <+: frX p f p.nb) p.nb w:=λl J v W e y _ z s =>
 Yj F n u q A l b a c p f J v z W y (Qzx g e.size) ((e.cell (p:=⟨b,0,none⟩) m).trans r) ((e.cell (p:=⟨a,0,none⟩) j).trans o) k i (λd h=>t d ((e.mono g).trans h)) s
end Go.Proofs.YtbcacebifpagpagGreat
namespace Go.Proofs.YtbcacebifpagpagGreat
variable{n b A g o l c i q j R L M:Nat}{w a d:World}{s x y u:St}{r W J D:Int}{e H:TypeId}{p:Pl}{z O:Nat->Hd}{f f':Nat->Value}{Q:Exit->Act->World->Prop}{v c1 c3 c2:Value}{xs:List Value}{U V:Hs}{X Y:Int->Int->Int}{P:Program}{h Z:Hd}{t:List UInt8}{E:Hd->Bool}{z' zs:Nat->Int}{S:World->Prop}{a1:Act}{K:Act->World->Prop}
open _root_.Go.Proofs.Tryz
open Go Go.Sort Go.RowKit
def Gl(l:List Oper):Bool:=l.all λo=>match o.op with|.defer _=>false|_=>true
theorem Wv{l:List Oper}(h:Gl l=true){o:Oper}(a:l.toArray[i]?=some o):∀c,o.op ≠ .defer c:=by
 intro c e;have b:o∈l:=by
  rw[Qvz] at a;exact List.mem_of_getElem? a
 have:=List.all_eq_true.1 h o b;rw[e] at this;cases this
section
variable {F:Fence} {n:Nat} {P:Program} {C:World->Prop} {md:Region.Mode}
theorem Pq{o:Oper}{a:Act}{K:Act->Prop}{l:Act->World->Prop}{q:Exit->Act->World->Prop}(k:∀c,o.op ≠ .defer c)(g:C w)(h:∀a w',C w'->K a->l a w')
  (p:o.askedIn F P a C) (m:o.quietIn F n P a C K):o.wpIn F n P a w l q:=by
 obtain⟨v,s,j⟩:=m;have b:=s w g;unfold Oper.quietAtIn at b;unfold Oper.wpIn;refine⟨p w g,?_⟩;rw[Oper.semAt_plain F _ _ k]
 generalize (execOp a.eval o).run P w=r at *
 cases r with
 | ok x w' =>
  cases x<;>simp only[Oper.quietUponIn] at b<;>simp only[Oper.uponIn]
  case value u =>
   obtain⟨d,i⟩:=b;rw[d,i];exact h _ _ g j
  case skip =>
   obtain⟨d,i⟩:=b;rw[d,<-i];exact h _ _ g j
  case enter f args =>
   obtain⟨d,hd,hc⟩:=b;rw[d];exact⟨hd,hc.mono λe w'' ⟨he,hw''⟩=>by subst he;exact h _ _ hw'' j⟩
 | halt x w'=>simp only[Oper.quietUponIn] at b
variable {l:List Oper}
theorem Mq{a:Act}{K:Act->Prop}{f:Act->World->Prop}{k:Exit->Act->World->Prop}(j:Gl l=true)(c:C w)(h:∀a w',C w'->K a->f a w')
  (b:qOpIn F n P l.toArray C i K a):wpOpIn F n P l.toArray k i f a w:=by
 unfold qOpIn at b;unfold wpOpIn
 split
 .rename_i d;simp only[d] at b;exact h _ _ c b
 rename_i o d;simp only[d] at b;obtain⟨g,b⟩:=b
 split
 .rename_i e;simp only[e,if_true] at b;exact Pq (Wv j d) c h g b
 rename_i e;simp only[e] at b;exact⟨g w c,h _ _ c b⟩
theorem C6{Q:Act->Prop}{e:Exit->Act->World->Prop}(c:Gl l=true)(d:∀a w,C w->Q a->e .normal a w):∀(fuel:Nat) (b:Array Bool) (a:Act) (w:World),C w ->
  wpAnyQIn F n P md l.toArray C Q fuel b a->wpAnyIn F n P md l.toArray e fuel b a w
 | 0,_,_,_,hw,h=>⟨h.1,d _ _ hw h.2⟩
 | fuel+1,_,_,_,hw,h=>⟨λg=>d _ _ hw (h.1 g),λi hi=>Mq c hw (λk j f=>C6 c d fuel _ k j f) (h.2 i hi)⟩
theorem J9{a:Act}(e:Gl l=true)(i:P.follows .mixedOrders=true)(d:Region.lexB .any l.toArray=true)(g:C { w with drawn:=w.drawn+1 })
  (h:wpQuietIn F n P l.toArray C (λc=>∀b,C b->Q .normal c b) l a):(Code.region A l.toArray true).wpIn F n P Q a w:=by
 simp only[Region.lexB,Xxx] at d;refine wpIn_region_any i (C6 (Q:=λc=>∀b,C b->Q .normal c b) e (λ_ b f h=>h b f) _ _ _ _ g ?_);have:=wpAnyQIn_lex (F:=F) (n:=n) (C:=C) (md := .any) d.1 l 0 (Array.replicate l.toArray.size false) a (by simp) (by simpa using d.2) h
 simpa using this
theorem yj{a:Act}(c:Gl l=true)(f:P.follows .mixedOrders=true)(g:Region.lexB .any l.toArray=true)
  (h:wpQuietIn F n P l.toArray (λb=>∃p:Regrown,b=grow (redrawn w p.d) p.os) (λe=>∀b,(∃p:Regrown,b=grow (redrawn w p.d) p.os)->Q .normal e b) l a):(Code.region A l.toArray true).wpIn F n P Q a w :=
 J9 (C:=λb=>∃p:Regrown,b=grow (redrawn w p.d) p.os) c f g ⟨⟨w.drawn+1,#[]⟩,by rw[grow_empty];rfl⟩ h
end
end Go.Proofs.YtbcacebifpagpagGreat
namespace Go.Proofs.YtbcacebifpagpagGreat
variable{n b A g o l c i q j R L M:Nat}{w a d:World}{s x y u:St}{r W J D:Int}{e H:TypeId}{p:Pl}{z O:Nat->Hd}{f f':Nat->Value}{Q:Exit->Act->World->Prop}{v c1 c3 c2:Value}{xs:List Value}{U V:Hs}{X Y:Int->Int->Int}{P:Program}{h Z:Hd}{t:List UInt8}{E:Hd->Bool}{z' zs:Nat->Int}{S:World->Prop}{a1:Act}{K:Act->World->Prop}
open _root_.Go.Proofs.Tryz
open Go.RowKit Go.Shelf Go.Sort
theorem Ri(p:Pl)(s:St)(b g:Nat)(w:World)(j:p.At w)(hs:s.At w)(h:ag p s=0)(f:b<p.nb)(d:g<p.ns):
  Calls prog 105 #[.agg #[.slice p.ab p.nb p.cb,.slice p.sa p.ns p.cs],.agg #[.slice s.on.a s.on.n s.on.c,.slice s.os.a s.os.n s.os.c,.slice s.hs.a s.hs.n s.hs.c,.slice s.ms.a s.ms.n s.ms.c,.slice s.si.a s.si.n s.si.c,.slice s.so.a s.so.n s.so.c,.slice s.sf.a s.sf.n s.sf.c],.int .i64 (b:Int),.int .i64 (g:Int)] w λe i=>e = .returned (.tuple #[.int .i64 (aw s b g),.int .i64 0])/\Below w.heap.size w i:=by
 have k:=Im p s b g w j hs;rw[(Ew h f d).1,(Ew h f d).2] at k;exact k
theorem Ss(h:ag p s=0)(c:b<p.nb):t9 p s b=0/\A7 p s b=gj p s b:=by
 have f:=(dp h).fm;have a:vw p s.on b=0:=by unfold vw;rw[f.sh0];simp only[beq_self_eq_true,if_true];rw[bw (by have:=f.sh.n;omega)];rfl
 have e:t9 p s b=0:=by unfold t9;rw[if_pos h,a]
 exact⟨e,by unfold A7;rw[if_pos e];rfl⟩
theorem Tx(p:Pl)(s:St)(b:Nat)(w:World)(d:p.At w)(hs:s.At w)(h:ag p s=0)(a:b<p.nb):
  Calls prog 88 #[p.val,s.val,.int .i64 (b:Int)] w λe c=>e = .returned (.tuple #[.int .i64 (gj p s b),.int .i64 0])/\Below w.heap.size w c:=by
 have k:=Rm p s b w d hs;rw[(Ss h a).1,(Ss h a).2] at k;exact k
theorem Ql(F:cx p s)(c:b<p.nb)(a:g<p.ns):0<=dx s b g/\dx s b g<=1800:=by
 have d:=F.sh.num b (by rw[F.sh.n];exact c) g a;have f:=me (s:=s) (b:=b) (g:=g) F.moveN;have e:=F.ms8;unfold dx;omega
theorem Sr(F:cx p s)(d:b<p.nb): -30000<=gj p s b/\gj p s b<=1000:=by
 have e:b<s.on.n:=by rw[F.sh.n];exact d
 have i:=yh (z:=(s.on.r b).z) (zs:=p.zs) (n:=p.ns) (λj c=>⟨F.sh.num b e j c,F.sh.pl.sizes j c⟩) p.ns nlr;have h:=Fi F b s.ms.n nlr;have f:=F.ms8;have g:=F.sh.pl.ns3;have a:=F.sh.pl.bins b d;rw[Ex] at a;simp only[Xxq,Bool.not_eq_false'] at a;have:=au a.1.1;unfold gj;omega
theorem Hf(r:Rr p)(c:b<p.nb):(0<=(p.zb b).high/\(p.zb b).high<=200)/\0<=(p.zb b).low/\(p.zb b).low<=200:=by
 have a:=r.bins b c;rw[Ex] at a;simp only[Xxq,Bool.not_eq_false'] at a;have:=au a.1.2;have:=au a.2;omega
theorem Pu(r:ar p s)(c:b<p.nb)(a:g<p.ns):0<=aw s b g/\aw s b g<=200:=by
 have F:=r.fm;have d:=(ld (r.goods g a)).2 b c;have e:=F.sh.num b (by rw[F.sh.n];exact c) g a;have h:=nw (s:=s) (b:=b) (g:=g) F.holdN;have f:=jx (s:=s) (b:=b) (g:=g) F.moveN;refine⟨d,?_⟩;unfold aw;omega
theorem Vs(p:Pl)(s:St)(g f b:Nat)(n:Int)(w:World)(F:p.At w)(hs:s.At w)(r:ar p s)(L:g<p.ns)(hf:f<p.nb)(H:b<p.nb):
  Calls prog 103 #[p.val,s.val,.agg #[.int .i64 g,.int .i64 f,.int .i64 b,.int .i64 n]] w λe w'=>e = .returned (.int .i64 (px p s b g f))/\Below w.heap.size w w':=by
 obtain⟨t,hW,D,X0,K0⟩:∃W,(((w.alloc (.cells #[.slice p.ab p.nb p.cb,.slice p.sa p.ns p.cs] 25)).alloc (.cells s.cells 31)).alloc (.cells #[.int .i64 g,.int .i64 f,.int .i64 b,.int .i64 n] 63))=W/\Below w.heap.size w W/\lx W w.heap.size (w.heap.size+1) p s/\Blk W (w.heap.size+1+1) 63 4 (λj=>(#[.int .i64 g,.int .i64 f,.int .i64 b,.int .i64 n]:Array Value).getD j default):=
  ⟨_,rfl,(ix _ _ _).alloc (by simp;omega) _,(nt w p s _ _).below (brf.alloc nlr _),Blk.mk' (cur:=#[.int .i64 g,.int .i64 f,.int .i64 b,.int .i64 n]) (by simp) rfl⟩
 have y:Hid (∀i,Below t.heap.size t i->lx i w.heap.size (w.heap.size+1) p s/\p.At i/\s.At i/\Below w.heap.size w i/\Blk i (w.heap.size+1+1) 63 4 (λj=>(#[.int .i64 g,.int .i64 f,.int .i64 b,.int .i64 n]:Array Value).getD j default)):=λi h=>⟨X0.below h,(F.below D).below h,(hs.below D).below h,D.trans (h.mono D.size),K0.below h⟩;have HW:Hid (((w.alloc (.cells #[.slice p.ab p.nb p.cb,.slice p.sa p.ns p.cs] 25)).alloc (.cells #[.slice s.on.a s.on.n s.on.c,.slice s.os.a s.os.n s.os.c,.slice s.hs.a s.hs.n s.hs.c,.slice s.ms.a s.ms.n s.ms.c,.slice s.si.a s.si.n s.si.c,.slice s.so.a s.so.n s.so.c,.slice s.sf.a s.sf.n s.sf.c] 31)).alloc (.cells #[.int .i64 g,.int .i64 f,.int .i64 b,.int .i64 n] 63)=t):=hW;have leb:=F.leb;have capb:=F.capb;have les:=F.les;have caps:=F.caps;unfold maxLen at capb caps;have v:=hid r;have g0:(0:Int)<=(g:Int):=by omega
 have b0:(0:Int)<=(b:Int):=by omega
 have g1:(g:Int)<(p.ns:Int):=by omega
 have b1:(b:Int)<(p.nb:Int):=by omega
 clear hW X0 F hs r;unfold Pl.val St.val;go_enter func103,ntmps103;go_wp2_with fail;rw[HW.out];clear HW;have S:Below t.heap.size t t:=Below.refl _ _;obtain⟨⟨⟨J,u,B⟩,G,A,c1,c2,c3,c4,c5,c6⟩,l,o,q,d⟩:=y.out t S;obtain⟨bb,ob,Y,au,z0,z1,z2,z3⟩:=l.bins b H;have P:t.cell? ⟨w.heap.size+1+1,0,none⟩=some (.int .i64 g):=d.k 0;have Q:t.cell? ⟨w.heap.size+1+1,2,none⟩=some (.int .i64 b):=d.k 2;have E:=d.lt;rw[Y] at u;have T:Hid (∀i,s.At i->Calls prog 89 #[.agg #[.slice s.on.a s.on.n s.on.c,.slice s.os.a s.os.n s.os.c,.slice s.hs.a s.hs.n s.hs.c,.slice s.ms.a s.ms.n s.ms.c,.slice s.si.a s.si.n s.si.c,.slice s.so.a s.so.n s.so.c,.slice s.sf.a s.sf.n s.sf.c],.int .i64 b,.int .i64 g] i λe w'=>e = .returned (.int .i64 (dx s b g))/\Below i.heap.size i w'):=λi h=>Ip p s b g i h v.out.fm H L;have V:=hid o;have hi:=Hf v.out.fm.sh.pl H;have ly:=Ql v.out.fm H L;have HN:Hid (px p s b g f=min (min ((p.zb b).high-dx s b g) (aw s f g)) ((gj p s b).tdiv (p.zs g))):=rfl;have av:=Pu v.out hf L;have fr:=Sr v.out.fm H;have sz:=v.out.fm.sh.pl.sizes g L;have af:=Qqq u;have az:=Qqq z3;have an:=Qqq P;have ao:=Qqq Q;have ad:=Qqq A;have ay:=Qqq c1;have am:=Qqq c2;have al:=Qqq c3;have ac:=Qqq c4;have ap:=Qqq c5;have ak:=Qqq c6
 generalize dx s b g=LY at *
 generalize (p.zb b).high=HI at *
 clear Y l o q d u B A c1 c2 c3 c4 c5 c6 z0 z1 z2 z3 P Q S;refine Qxq (by kernel_rfl) (by kernel_rfl) ?_
 repeat(go_big_quiet_step((go_at_call 89;exact Xxz (T.out _ (V.out.below (Qxx _ _ _))))))
 refine Qqz ?_;intro K U;have m:=ae U;clear af az an ao ad ay am al ac ap ak T V U J G E au;obtain⟨⟨⟨J,u,B⟩,G,A,c1,c2,c3,c4,c5,c6⟩,l,o,q,d⟩:=y.out K m;have P:K.cell? ⟨w.heap.size+1+1,0,none⟩=some (.int .i64 g):=d.k 0;have m1:K.cell? ⟨w.heap.size+1+1,1,none⟩=some (.int .i64 f):=d.k 1;have E:=d.lt;clear l o q d;go_wp2_with fail;refine Calls.mono (Ri p s f g K (y.out K m).2.1 (y.out K m).2.2.1 (j8 v.out) hf L) ?_;rintro e M ⟨rfl,x⟩;have m:=m.trans (x.mono m.size);clear J u B G A c1 c2 c3 c4 c5 c6 P m1 E x
 generalize aw s f g=AV at *
 obtain⟨⟨⟨J,u,B⟩,G,A,c1,c2,c3,c4,c5,c6⟩,l,o,q,d⟩:=y.out M m;have Q:M.cell? ⟨w.heap.size+1+1,2,none⟩=some (.int .i64 b):=d.k 2;have E:=d.lt;clear l o q d;go_wp2_with fail;refine Calls.mono (Tx p s b M (y.out M m).2.1 (y.out M m).2.2.1 (j8 v.out) H) ?_;rintro e w3 ⟨rfl,x⟩;have m:=m.trans (x.mono m.size);clear J u B G A c1 c2 c3 c4 c5 c6 Q E x
 generalize gj p s b=FR at *
 obtain⟨⟨⟨J,u,B⟩,G,A,c1,c2,c3,c4,c5,c6⟩,l,o,q,d⟩:=y.out w3 m;have P:w3.cell? ⟨w.heap.size+1+1,0,none⟩=some (.int .i64 g):=d.k 0;have E:=d.lt;obtain⟨bs,os,X,bc,y0⟩:=l.sizes g L;rw[X] at B;clear l o d X
 generalize p.zs g=ZS at *
 by_cases q1:AV<HI-LY
 all_goals(
  go_wp2_with fail
  all_goals(
   go_ret;refine⟨?_,q⟩;rw[HN.out]
   generalize FR.tdiv ZS=QQ at *
   refine congrArg (λz=>Ending.returned (Value.int .i64 z)) ?_;omega))
attribute [local go_sem] Oper.semAt_some
def Ya(P:Prop):Prop:=P
theorem S5{P:Prop}(h:Ya P):P:=h
theorem J6{P:Prop}(h:P):Ya P:=h
theorem Zf{F:Fence}{fn:Func}{R:Ending->World->Prop}{a:Act}(c:(results fn a.tmps).run P w = .ok v w)(hd:a.defers=[])(b:R (.returned v) w):Exit.noGoto (bodyPostM F n P fn R) .ret a w:=by
 show LeavesInM F n P fn a.tmps R a.defers .returning w;rw[hd];exact⟨v,c,b⟩
theorem Jm{F:Fence}{fn:Func}{R:Ending->World->Prop}{a:Act}(c:w.heap[A]?=some (.deferred (some [])))(d:(results fn a.tmps).run P (w.putObj A (.deferred none)) = .ok v (w.putObj A (.deferred none)))(hd:a.defers=[{ target := .collected A,args:=#[] }])(b:R (.returned v) (w.putObj A (.deferred none))):Exit.noGoto (bodyPostM F n P fn R) .ret a w:=by
 show LeavesInM F n P fn a.tmps R a.defers .returning w;rw[hd];exact⟨by simp,.inl ⟨_,_,rfl,run_takeDeferred c,⟨v,d,b⟩⟩⟩
theorem de.ck{d:Nat}{c Y:World}{row:Option Nat}(h:de A d c x w)(a:w.grownBy Y row)(b:∀r,row=some r->M<=r/\∃o:Obj,w.heap[r]?=some o/\o.isCells=false)(f:c.heap.size<=M):de A d c x Y :=
 ⟨h.own.ck (jr.of a λr e=>(b r e).2),h.box.ck (jr.of a λr e=>(b r e).2),h.bel.grown a h.bel.size (λk e=>Qzx f (b k e).1),Qzx h.le a.size⟩
theorem un(h:Below w.heap.size w d):KeepsOthers w d:=⟨h.size,λk o a _=>(h.block k (Qkq a).1).trans a⟩
theorem Ki{B:Nat}{Y:World}(h:Below b w Y)(f:Blk w B e 1 (λ_=>v))(d:Blk Y B e 1 (λ_=>v)):A9 b B w Y:=⟨h,λu c=>by
 have a:=f.k 0;rw[a] at c;cases c;exact d.k 0⟩
def vh(p:Pl)(A B7 BF:Nat)(W0:World)(y:St)(W:World):Prop:=(∃x:St,af x y/\de A B7 W0 x W)/\Blk W BF 4 1 (λ_ => .bool true)
theorem vh.ck{Y:World}{row:Option Nat}(h:vh p A c b a y w)(d:w.grownBy Y row)(f:∀r,row=some r->M<=r/\∃o:Obj,w.heap[r]?=some o/\o.isCells=false)(j:a.heap.size<=M):vh p A c b a y Y:=by
 obtain⟨⟨x,g,k⟩,i⟩:=h;exact⟨⟨x,g,k.ck d f j⟩,i.ck (jr.of d λr e=>(f r e).2)⟩
theorem vh.below{Y:World}(h:vh p A b c a y w)(d:Below w.heap.size w Y):vh p A b c a y Y:=by
 obtain⟨⟨x,g,f⟩,e⟩:=h;exact⟨⟨x,g,f.below d⟩,e.below d⟩
def C9(p:Pl)(A B7:Nat)(W0:World)(c:Code)(y:St)(W:World):Prop:=c = .exit 0/\8<=y.ms.n/\∃x:St,af x y/\de A B7 W0 x W
theorem C9.ck{Y:World}{c:Code}{row:Option Nat}(h:C9 p A b a c y w)(g:w.grownBy Y row)(k:∀r,row=some r->M<=r/\∃o:Obj,w.heap[r]?=some o/\o.isCells=false)(i:a.heap.size<=M):C9 p A b a c y Y:=by
 obtain⟨f,d,x,e,j⟩:=h;exact⟨f,d,x,e,j.ck g k i⟩
theorem Qw(h:q≠b)(i f c a e d g:Value):(set7 w b i f c a e d g).heap[q]?=w.heap[q]?:=by
 unfold set7;rw[Below.heap_setCell _ ⟨b,6,none⟩ _ q h,Below.heap_setCell _ ⟨b,5,none⟩ _ q h,Below.heap_setCell _ ⟨b,4,none⟩ _ q h,Below.heap_setCell _ ⟨b,3,none⟩ _ q h,Below.heap_setCell _ ⟨b,2,none⟩ _ q h,Below.heap_setCell _ ⟨b,1,none⟩ _ q h,Below.heap_setCell _ ⟨b,0,none⟩ _ q h]
theorem aan(p:Pl)(s:St)(w:World)(hp:p.At w)(hs:s.At w):
  Calls prog 46 #[p.val,s.val] w λe w'=>∃x:St,e = .returned (.tuple #[x.val,.int .i64 (ag p s)])/\x.At w'/\ij (ag p s) (Cl p s) x/\(ag p s=0->ai w.heap.size w' x)/\Below w.heap.size w w':=by
 obtain⟨o,hW,h5,X0,Z0⟩:=Cd w p s;have HC:=Bb hp hs h5 X0 Z0;have HW:=hid hW;have leb:=hp.leb;have bx:=hp.capb;have les:=hp.les;have ff:=hp.caps;have capb:=bx;have caps:=ff;have i6:=Z0.lt;unfold maxLen at capb caps;clear hW X0 Z0 hp hs;unfold Pl.val St.val;refine(callsIn_wide (n:=9)).1 ?_;refine callsIn_of_wp_marks func46 rfl trivial ?_ rfl;simp only[ntmps46,List.size_toArray,List.length_cons,List.length_nil,Nat.reduceAdd,Nat.reduceSub,Array.replicate_succ,Array.replicate_zero,List.push_toArray,List.append_toArray,Xqx,Xqz]
 gi_wp2_with fail
 rw[HW.out];refine wpIn_wide.2 (wp_scope_straight ((wpIn_wide (n:=9)).1 ?_));obtain⟨⟨⟨l1,d0,d1⟩,l2,c0,c1,c2,c3,c4,c5,c6⟩,-,-,-,-⟩:=HC.out o brf
 gi_wp2_with(refine⟨trivial,?_⟩;(first|gi_at_call 16|gi_at_call 90|gi_at_call 102|gi_at_call 89|gi_at_call 103);refine S5 ?_)
 clear l1 d0 d1 l2 c0 c1 c2 c3 c4 c5 c6;refine J6 ?_;obtain⟨X,au,a6,ac,hz⟩:=HC.out o brf;refine(callsIn_wide.2 (lg p s o au a6)).mono ?_;rintro e L ⟨rfl,hB⟩;clear X au a6 ac hz HW;obtain⟨⟨⟨l1,d0,d1⟩,l2,c0,c1,c2,c3,c4,c5,c6⟩,au,a6,ac,hz⟩:=HC.out L hB;by_cases h0:ag p s=0;rotate_left
 .have bd:=hid h0;have g0:(ag p s !=0)=true:=by simpa using h0
  clear h0 au a6;obtain⟨zl,f8,gh,fp,zc1,gk,zc2,dn,zc3,gg,zc4,fh,zc5,fi,fr⟩:=z7 hz
  gi_wp2_with fail
  have KZ:=n7b hz;have av:=n7w (b:=w.heap.size+2) ac (by omega);unfold set7 at KZ av;obtain⟨cg,b8,b2,b4,b1,cd,cf⟩:=df KZ;refine Zf (v := .tuple #[j5.val,.int .i64 (ag p s)]) (by simp[results,results46,go_sem,j5,St.val,cg,b8,b2,b4,b1,cd,cf]) rfl ?_;exact⟨j5,rfl,uo _,⟨λh=>absurd h (bd.out),λ_=>⟨rfl,rfl,rfl,rfl,rfl,rfl,rfl⟩⟩,λh=>absurd h (bd.out),av⟩
 have HR:Hid (ar p s):=dp h0;have H0:=hid h0;have fl:Hid (Calls prog 90 #[s.val] L λe w'=>∃s':St,e = .returned s'.val/\af s' s/\ai L.heap.size w' s'/\Below L.heap.size L w'):=ov p s L a6 HR.out.fm;rw[h0];clear h0 au a6 ac hz
 gi_wp2_with(refine⟨trivial,?_⟩;(first|gi_at_call 16|gi_at_call 90|gi_at_call 102|gi_at_call 89|gi_at_call 103);refine S5 ?_)
 refine J6 ?_;refine(callsIn_wide.2 fl.out).mono ?_;rintro e w4 ⟨i,rfl,dg,ev,dm⟩;clear fl l1 d0 d1 l2 c0 c1 c2 c3 c4 c5 c6;obtain⟨E,fx,cu,K5⟩:=ab7 w4 i;have d8:=hid fx;have cl:=dm.trans (cu.mono dm.size);have A2:o.heap.size<=L.heap.size:=hB.size;have A3:L.heap.size<=w4.heap.size:=dm.size;have di:Hid (de L.heap.size w4.heap.size o i E):=⟨ai.below ev cu,K5,hB.trans (cl.mono hB.size),by have:=cl.size;omega⟩;have ip:=hid dg;obtain⟨⟨⟨l1,d0,d1⟩,l2,c0,c1,c2,c3,c4,c5,c6⟩,au,a6,ac,hz⟩:=HC.out E di.out.bel;clear fx ev K5 dm cu cl dg hB au a6 ac hz l2 c0 c1 c2 c3 c4 c5 c6;rw[<-d8.out] at l1 d0 d1;simp only[St.val]
 gi_wp2_with fail
 refine wpIn_label ?_;rw[d8.out];rw[d8.out] at l1 d0 d1
 gi_wp2_with(refine⟨trivial,?_⟩;(first|gi_at_call 16|gi_at_call 90|gi_at_call 102|gi_at_call 89|gi_at_call 103);refine S5 ?_)
 refine J6 ?_;clear l1 d0 d1;refine(Ey Fence.wide _ trivial rfl p true E).mono ?_;rintro e w' ⟨rfl,rfl⟩
 gi_wp2_with fail
 generalize hB7:w4.heap.size=M at *
 have je:M<E.heap.size:=di.out.box.lt;obtain⟨W6,f1,s6,fu,kF,cP⟩:∃W,(E.alloc (.cells #[.slice p.ab p.nb p.cb,.slice p.sa p.ns p.cs] 25)).alloc (.cells #[.bool true] 4)=W/\W.heap.size=E.heap.size+2/\Below E.heap.size E W/\Blk W (E.heap.size+1) 4 1 (λ_ => .bool true)/\W.cell? ⟨E.heap.size,0,none⟩=some (.slice p.ab p.nb p.cb):=
  ⟨_,rfl,by simp,(brf.alloc nlr _).alloc (by simp) _,(Blk.mk' (cur:=#[.bool true]) (by simp) rfl).congr (λj hj=>by match j,hj with|0,_=>rfl),((Blk.new E #[.slice p.ab p.nb p.cb,.slice p.sa p.ns p.cs] 25).alloc (.cells #[.bool true] 4)).cell (j:=0) (by simp)⟩
 rw[f1];have d6:=hid (di.out.below fu);have b0:o.heap.size<=W6.heap.size:=d6.out.bel.size;have i9:o.heap.size<=E.heap.size:=di.out.bel.size;have hk:Hid (∀d,Below o.heap.size W6 d->tu d p.ab p.nb p.zb):=λd h=>(HC.out d (d6.out.bel.trans h)).2.1.bins;have h4:Hid (vh p L.heap.size M (E.heap.size+1) o (my p [] s) W6):=⟨⟨i,ip.out,d6.out⟩,kF⟩;clear f1 fu hB7;have cF:=kF.k 0;refine wpIn_rangeFunc_ownH rfl (by decide) (gf:=149) (lb:=#[.pointer (some ⟨E.heap.size,0,none⟩),.pointer (some ⟨E.heap.size+1,0,none⟩)]) rfl trivial (enters_of func149 (by kernel_rfl) rfl)
  (Ku Fence.wide _ trivial rfl (by decide) E.heap.size (E.heap.size+1) o.heap.size p true W6 (by omega) (by omega) b0 cP cF leb bx hk.out) Hh (Hg b0 (by omega)) brf (λ_=>rfl)
  (λpre W=>vh p L.heap.size M (E.heap.size+1) o (my p pre s) W)
  (λc pre W=>C9 p L.heap.size M o c (my p pre s) W)
  (λpre X Y row hs hg hr=>hs.ck hg hr b0)
  (λc pre X Y row hs hg hr=>hs.ck hg hr b0)
  h4.out
  (λb a' W=>∃Bx,Blk W Bx 3 1 (λ_ => .int .i64 (b.1:Int))/\a'={ tmps:=#[.agg #[.slice p.ab p.nb p.cb,.slice p.sa p.ns p.cs],.agg #[.slice s.on.a s.on.n s.on.c,.slice s.os.a s.os.n s.os.c,.slice s.hs.a s.hs.n s.hs.c,.slice s.ms.a s.ms.n s.ms.c,.slice s.si.a s.si.n s.si.c,.slice s.so.a s.so.n s.so.c,.slice s.sf.a s.sf.n s.sf.c],.pointer (some ⟨w.heap.size,0,none⟩),.pointer (some ⟨w.heap.size+1,0,none⟩),.pointer (some ⟨w.heap.size+1+1,0,none⟩),.int .i64 0,.int .i64 0,.pointer (some ⟨M,0,none⟩),.pointer (some ⟨Bx,0,none⟩),undef,undef,undef,.agg #[.slice p.ab p.nb p.cb,.slice p.sa p.ns p.cs],.agg #[.slice s.on.a s.on.n s.on.c,.slice s.os.a s.os.n s.os.c,.slice s.hs.a s.hs.n s.hs.c,.slice s.ms.a s.ms.n s.ms.c,.slice s.si.a s.si.n s.si.c,.slice s.so.a s.so.n s.so.c,.slice s.sf.a s.sf.n s.sf.c],.int .i64 0,.int .i64 0,.bool false,undef,undef,.agg #[.slice s.on.a s.on.n s.on.c,.slice s.os.a s.os.n s.os.c,.slice s.hs.a s.hs.n s.hs.c,.slice s.ms.a s.ms.n s.ms.c,.slice s.si.a s.si.n s.si.c,.slice s.so.a s.so.n s.so.c,.slice s.sf.a s.sf.n s.sf.c],.agg #[.slice i.on.a i.on.n i.on.c,.slice i.os.a i.os.n i.os.c,.slice i.hs.a i.hs.n i.hs.c,.slice i.ms.a i.ms.n i.ms.c,.slice i.si.a i.si.n i.si.c,.slice i.so.a i.so.n i.so.c,.slice i.sf.a i.sf.n i.sf.c],.agg #[.slice p.ab p.nb p.cb,.slice p.sa p.ns p.cs],.func (.func 149) #[] #[.pointer (some ⟨E.heap.size,0,none⟩),.pointer (some ⟨E.heap.size+1,0,none⟩)],.int .i64 (b.1:Int),undef,undef,undef,undef,undef,undef,undef,undef,undef,undef,undef,undef,undef,undef,undef,undef,undef,undef,undef,undef,undef,undef,undef,undef,undef,undef,undef,undef,undef,undef,undef,undef,undef,undef,undef,undef,undef,undef,undef,undef,undef,undef,undef,undef],defers:=[] })
  (λb a' _ X Y row hs hg hr=>by obtain⟨Bx,h1,h2⟩:=hs;exact⟨Bx,h1.ck (jr.of hg λr e=>(hr r e).2),h2⟩)
  ?assign ?body ?done ?stop
 case assign =>
  rintro l pre b W K hi hK
  gi_wp2
  exact hK _ _ ((KeepsOthers.alloc _ _).from _) (Ki ((Below.refl _ W).alloc (by have:=hi.1.choose_spec.2.bel.size;omega) _) hi.2 (hi.2.alloc _)) (hi.below (brf.alloc nlr _)) ⟨W.heap.size,(Blk.mk' (cur:=#[.int .i64 (b.1:Int)]) rfl rfl).congr (λj hj=>by match j,hj with|0,_=>rfl),rfl⟩
 case body =>
  rintro l pre b a' W hl ⟨r,hr⟩ hi ⟨Bx,a2,rfl⟩ jj;obtain⟨b,ad,b7⟩:=b;dsimp only at a2 ⊢;obtain⟨Yb,c9⟩:∃y,my p pre s=y:=⟨_,rfl⟩;have f7:Hid (my p (pre++[⟨b,ad,b7⟩]) s=jg p b p.ns Yb):=by show _=_;rw[Nk,c9]
  have h6:Hid (gp p s Yb):=by show gp p s Yb;rw[<-c9];exact(gp.refl HR.out).B _
  rw[c9] at hi;have f6:=qa2 hl hr;have HJ:Hid (vh p L.heap.size M (E.heap.size+1) o (jg p b 0 Yb) W/\Blk W Bx 3 1 (λ_ => .int .i64 (b:Int))/\Below o.heap.size W W/\KeepsFrom W6.heap.size W W):=⟨hi,a2,Below.refl _ _,KeepsFrom.refl _ _⟩;have cx:=hid hi;obtain⟨⟨y0,hq,gl⟩,g3⟩:=hi;obtain⟨⟨⟨l1,d0,d1⟩,l2,c0,c1,c2,c3,c4,c5,c6⟩,-,-,-,-⟩:=HC.out W gl.bel;have q0:(0:Int)<=(b:Int):=by omega
  have q1:(b:Int)<(p.nb:Int):=by omega
  clear hl hr c9 hq gl g3 a2 l2 c0 c1 c2 c3 c4 c5 c6
  gi_wp2_with fail
  clear l1 d0 d1
  gi_loopw [27] (λgv wk=>∃g:Nat,g<=p.ns/\gv = .int .i64 g/\Hid (vh p L.heap.size M (E.heap.size+1) o (jg p b g Yb) wk/\Blk wk Bx 3 1 (λ_ => .int .i64 (b:Int))/\Below o.heap.size W wk/\KeepsFrom W6.heap.size W wk)) (λgv _=>p.ns-(intOf gv).toNat)
  case atStart=>exact⟨0,Qxz _,rfl,HJ⟩
  clear HJ;obtain⟨g,hg,rfl,HJ⟩:=hrel;by_cases bq:g<p.ns;rotate_left
  .have iq:g=p.ns:=by omega
   have r1:(p.ns:Int)<=(g:Int):=by omega
   gi_wp2_with fail
   refine⟨HJ.out.2.2.2,Ki HJ.out.2.2.1 cx.out.2 HJ.out.1.2,?_⟩;show vh p L.heap.size M (E.heap.size+1) o (my p (pre++[⟨b,ad,b7⟩]) s) _;rw[f7.out,<-iq];exact HJ.out.1
  have r0:(0:Int)<=(g:Int):=by omega
  have r1:(g:Int)<(p.ns:Int):=by omega
  obtain⟨S,cz⟩:∃z,jg p b g Yb=z:=⟨_,rfl⟩;have dj:=hid cz;have dd:Hid (gp p s S):=by show gp p s S;rw[<-cz];exact h6.out.G ad b7 hg
  rw[cz] at HJ;clear cz;obtain⟨⟨⟨y,dk,eo⟩,-⟩,-,-,-⟩:=HJ.out;have gm:=hid dk;have hy:Hid (ar p y):=dk.right dd.out.r;have hc:Hid (dx y b g=dx S b g):=dk.lying dd.out.r.fm ad bq;obtain⟨W8,fn,a4,K8⟩:∃d,wr.alloc (.cells #[.int .i64 (g:Int)] 3)=d/\Below wr.heap.size wr d/\Blk d wr.heap.size 3 1 (λ_ => .int .i64 (g:Int)):=⟨_,rfl,brf.alloc nlr _,(Blk.mk' (cur:=#[.int .i64 (g:Int)]) rfl rfl).congr (λj hj=>by match j,hj with|0,_=>rfl)⟩;have ft:Hid (wr.alloc (.cells #[.int .i64 (g:Int)] 3)=W8):=fn;have U:=hid (eo.below a4);have a8:=hid K8;have a1:=hid (HJ.out.2.1.below a4);have bl:=hid (HJ.out.1.2.below a4);have g6:o.heap.size<=wr.heap.size:=eo.bel.size;have T:Hid (Below o.heap.size W W8/\KeepsFrom W6.heap.size W W8):=⟨HJ.out.2.2.1.trans (a4.mono g6),HJ.out.2.2.2.trans ((un a4).from _)⟩;clear fn a4 K8 dk eo HJ
  gi_wp2_with fail
  rw[ft.out];clear ft
  generalize wr.heap.size=Bg at *
  obtain⟨⟨⟨l1,d0,d1⟩,l2,c0,c1,c2,c3,c4,c5,c6⟩,au,-,-,-⟩:=HC.out W8 U.out.bel;obtain⟨bb,ob,ex,f3,z0,z1,z2,z3⟩:=au.bins b ad;have jd:=hid ex;rw[ex] at d0;obtain⟨m1,p0,p1,p2,p3,p4,p5,p6⟩:=Boxed.of U.out.box;have c7:=a1.out.k 0;have dh:=a1.out.lt;have dq:=a8.out.k 0;have ef:=a8.out.lt;have cv:=hid U.out.own.at;have cy:Hid (∀wk,y.At wk->Calls prog 89 #[.agg #[.slice y.on.a y.on.n y.on.c,.slice y.os.a y.os.n y.os.c,.slice y.hs.a y.hs.n y.hs.c,.slice y.ms.a y.ms.n y.ms.c,.slice y.si.a y.si.n y.si.c,.slice y.so.a y.so.n y.so.c,.slice y.sf.a y.sf.n y.sf.c],.int .i64 b,.int .i64 g] wk λe w'=>e = .returned (.int .i64 (dx S b g))/\Below wk.heap.size wk w'):=λwk h=>by
   have k:=Ip p y b g wk h hy.out.fm ad bq;rw[hc.out] at k;exact k
  have ly:=Ql dd.out.r.fm ad bq;have jc:=Hf HR.out.fm.sh.pl ad;have ga:=Qqq d0;have fo:=Qqq z2;have gc:=Qqq p0;have gj:=Qqq p1;have gn:=Qqq p2;have gq:=Qqq p3;have fj:=Qqq p4;have f5:=Qqq p5;have fs:=Qqq p6;have ep:=Qqq c7;have eb:=Qqq dq;have fy:Hid ((p.zb b).low<=dx S b g->jg p b (g+1) Yb=S):=λh=>by rw[P4 (by rw[dj.out];exact h),dj.out]
  have fw:Hid (¬(p.zb b).low<=dx S b g->jg p b (g+1) Yb=jt p b g (frX p false p.nb) S):=λh=>by rw[Sn (by rw[dj.out];exact h),dj.out]
  generalize dx S b g=LY at *
  generalize (p.zb b).low=LW at *
  clear ex au l2 c0 c1 c2 c3 c4 c5 c6 d0 d1 z0 z1 z2 z3 p0 p1 p2 p3 p4 p5 p6 c7 dq;by_cases ej:LW<=LY
  .refine yj (by kernel_rfl) (by kernel_rfl) (by kernel_rfl) ?_
   repeat(gi_big_quiet_step (fail))
   refine wpQuietIn_step (λ_ _ _ _=>trivial) (λK hK => ?_)
   go_simp
   apply Exists.intro
   refine⟨λ_ => ?_,hK _ ?_⟩
   ·(gi_at_call 89;exact CallsIn.regrown_of (CallsIn.inRound l (callsIn_wide.2 (cy.out _ (cv.out.below (Qxx _ _ _))))))
   clear hK K
   repeat(gi_big_quiet_step (fail))
   refine wpQuietIn_nil ?_;intro H ce;have P:=ae ce;have U:=hid (U.out.below P);have a8:=hid (a8.out.below P);have a1:=hid (a1.out.below P);have bl:=hid (bl.out.below P);have T:Hid (Below o.heap.size W H/\KeepsFrom W6.heap.size W H):=⟨T.out.1.trans (P.mono (by have:=T.out.1.size;have:=cx.out.1.choose_spec.2.bel.size;omega)),T.out.2.trans ((un P).from _)⟩;clear ce P cv cy ga fo gc gj gn gq fj f5 fs ep eb m1 dh ef f3 l1;have HJ:Hid (vh p L.heap.size M (E.heap.size+1) o (jg p b (g+1) Yb) H/\Blk H Bx 3 1 (λ_ => .int .i64 (b:Int))/\Below o.heap.size W H/\KeepsFrom W6.heap.size W H):=by
    show _/\_;rw[fy.out ej];exact⟨⟨⟨y,gm.out,U.out⟩,bl.out⟩,a1.out,T.out⟩
   gi_wp2_with fail
   go_roundw
   case rel=>exact⟨g+1,by omega,by go_num,HJ⟩
   case measure=>simp[intOf];omega
  refine yj (by kernel_rfl) (by kernel_rfl) (by kernel_rfl) ?_
  repeat(gi_big_quiet_step (fail))
  refine wpQuietIn_step (λ_ _ _ _=>trivial) (λK hK => ?_)
  go_simp
  apply Exists.intro
  refine⟨λ_ => ?_,hK _ ?_⟩
  ·(gi_at_call 89;exact CallsIn.regrown_of (CallsIn.inRound l (callsIn_wide.2 (cy.out _ (cv.out.below (Qxx _ _ _))))))
  clear hK K
  repeat(gi_big_quiet_step (fail))
  refine wpQuietIn_nil ?_;intro H ce;have P:=ae ce;have U:=hid (U.out.below P);have a8:=hid (a8.out.below P);have a1:=hid (a1.out.below P);have bl:=hid (bl.out.below P);have T:Hid (Below o.heap.size W H/\KeepsFrom W6.heap.size W H):=⟨T.out.1.trans (P.mono (by have:=T.out.1.size;have:=cx.out.1.choose_spec.2.bel.size;omega)),T.out.2.trans ((un P).from _)⟩;clear ce P cv cy ga fo gc gj gn gq fj f5 fs ep eb m1 dh ef f3 l1;have f0:Hid (jg p b (g+1) Yb=jt p b g (frX p false p.nb) S):=fw.out ej;obtain⟨⟨⟨l1,d0,d1⟩,-,-,-,-,-,-,-,-⟩,-,-,-,-⟩:=HC.out H U.out.bel;clear fy fw ej
  gi_wp2_with(refine⟨trivial,?_⟩;(first|gi_at_call 16|gi_at_call 90|gi_at_call 102|gi_at_call 89|gi_at_call 103);refine S5 ?_)
  refine J6 ?_;clear l1 d0 d1;refine(CallsIn.inRound l (Ey Fence.wide _ trivial rfl p false H)).mono ?_;rintro e w' ⟨rfl,rfl⟩
  gi_wp2_with fail
  obtain⟨Q,ei,jh,a0,ge,im⟩:∃d,(H.alloc (.cells #[.slice p.ab p.nb p.cb,.slice p.sa p.ns p.cs] 25)).alloc (.cells #[.bool false] 4)=d/\d.heap.size=H.heap.size+2/\Below H.heap.size H d/\Blk d (H.heap.size+1) 4 1 (λ_ => .bool false)/\d.cell? ⟨H.heap.size,0,none⟩=some (.slice p.ab p.nb p.cb):=
   ⟨_,rfl,by simp,(brf.alloc nlr _).alloc (by simp) _,(Blk.mk' (cur:=#[.bool false]) (by simp) rfl).congr (λj hj=>by match j,hj with|0,_=>rfl),((Blk.new H #[.slice p.ab p.nb p.cb,.slice p.sa p.ns p.cs] 25).alloc (.cells #[.bool false] 4)).cell (j:=0) (by simp)⟩
  rw[ei];have h9:o.heap.size<=H.heap.size:=U.out.bel.size;have fk:o.heap.size<=W.heap.size:=cx.out.1.choose_spec.2.bel.size;have ji:W.heap.size<=H.heap.size:=T.out.1.size;have fq:Hid (Below o.heap.size W Q/\KeepsFrom W6.heap.size W Q):=⟨T.out.1.trans (a0.mono h9),T.out.2.trans ((un a0).from _)⟩;have iv:Hid ((vh p L.heap.size M (E.heap.size+1) o (jt p b g [] S) Q/\Blk Q Bx 3 1 (λ_ => .int .i64 (b:Int))/\Blk Q Bg 3 1 (λ_ => .int .i64 (g:Int)))/\Blk Q (H.heap.size+1) 4 1 (λ_ => .bool false)/\(Below o.heap.size W Q/\KeepsFrom W6.heap.size W Q)):=⟨⟨⟨⟨y,gm.out,U.out.below a0⟩,bl.out.below a0⟩,a1.out.below a0,a8.out.below a0⟩,ge,fq.out⟩;have it:Hid (∀d,Below o.heap.size Q d->tu d p.ab p.nb p.zb):=λd h=>(HC.out d ((U.out.below a0).bel.trans h)).2.1.bins;have a5:o.heap.size<=Q.heap.size:=by omega
  have ho:=ge.k 0;have ir:Q.heap[l]?=some (.loop r):=fq.out.2.same l (.loop r) f6.out.1 f6.out.2 rfl;clear ei U a8 a1 bl T;refine wpIn_rangeFunc_ownN (l₀:=l) (r₀:=r) rfl ir (by decide) (gf:=149) (lb:=#[.pointer (some ⟨H.heap.size,0,none⟩),.pointer (some ⟨H.heap.size+1,0,none⟩)]) rfl trivial (enters_of func149 (by kernel_rfl) rfl)
   ((Ku Fence.wide _ trivial rfl (by decide) H.heap.size (H.heap.size+1) o.heap.size p false Q (by omega) (by omega) a5 im ho leb bx it.out).inRound l) Hh (Hg a5 (by omega)) brf (λ_=>rfl)
   (λA d=>(vh p L.heap.size M (E.heap.size+1) o (jt p b g A S) d/\Blk d Bx 3 1 (λ_ => .int .i64 (b:Int))/\Blk d Bg 3 1 (λ_ => .int .i64 (g:Int)))/\Blk d (H.heap.size+1) 4 1 (λ_ => .bool false)/\(Below o.heap.size W d/\KeepsFrom W6.heap.size W d))
   (λc A d=>C9 p L.heap.size M o c (jt p b g A S) d/\(Below o.heap.size W d/\KeepsFrom W6.heap.size W d))
   (λA X Y row hs hg hr=>⟨⟨hs.1.1.ck hg hr a5,hs.1.2.1.ck (jr.of hg λr e=>(hr r e).2),hs.1.2.2.ck (jr.of hg λr e=>(hr r e).2)⟩,hs.2.1.ck (jr.of hg λr e=>(hr r e).2),hs.2.2.1.grown hg (Qzx fk hs.2.2.1.size) (λk e=>Qzx a5 (hr k e).1),ownFrom_keepsFrom (B:=W6.heap.size) (w₀:=W) (B':=Q.heap.size) (by omega) () X Y row hs.2.2.2 hg hr⟩)
   (λc A X Y row hs hg hr=>⟨hs.1.ck hg hr a5,hs.2.1.grown hg (Qzx fk hs.2.1.size) (λk e=>Qzx a5 (hr k e).1),ownFrom_keepsFrom (B:=W6.heap.size) (w₀:=W) (B':=Q.heap.size) (by omega) () X Y row hs.2.2 hg hr⟩)
   iv.out
   (λf fg _=>fg={ tmps:=#[.agg #[.slice p.ab p.nb p.cb,.slice p.sa p.ns p.cs],.agg #[.slice s.on.a s.on.n s.on.c,.slice s.os.a s.os.n s.os.c,.slice s.hs.a s.hs.n s.hs.c,.slice s.ms.a s.ms.n s.ms.c,.slice s.si.a s.si.n s.si.c,.slice s.so.a s.so.n s.so.c,.slice s.sf.a s.sf.n s.sf.c],.pointer (some ⟨w.heap.size,0,none⟩),.pointer (some ⟨w.heap.size+1,0,none⟩),.pointer (some ⟨w.heap.size+1+1,0,none⟩),.int .i64 0,.int .i64 0,.pointer (some ⟨M,0,none⟩),.pointer (some ⟨Bx,0,none⟩),.pointer (some ⟨Bg,0,none⟩),.int .i64 (f.1:Int),u11,.agg #[.slice p.ab p.nb p.cb,.slice p.sa p.ns p.cs],.agg #[.slice s.on.a s.on.n s.on.c,.slice s.os.a s.os.n s.os.c,.slice s.hs.a s.hs.n s.hs.c,.slice s.ms.a s.ms.n s.ms.c,.slice s.si.a s.si.n s.si.c,.slice s.so.a s.so.n s.so.c,.slice s.sf.a s.sf.n s.sf.c],.int .i64 0,.int .i64 0,.bool false,undef,undef,.agg #[.slice s.on.a s.on.n s.on.c,.slice s.os.a s.os.n s.os.c,.slice s.hs.a s.hs.n s.hs.c,.slice s.ms.a s.ms.n s.ms.c,.slice s.si.a s.si.n s.si.c,.slice s.so.a s.so.n s.so.c,.slice s.sf.a s.sf.n s.sf.c],.agg #[.slice i.on.a i.on.n i.on.c,.slice i.os.a i.os.n i.os.c,.slice i.hs.a i.hs.n i.hs.c,.slice i.ms.a i.ms.n i.ms.c,.slice i.si.a i.si.n i.si.c,.slice i.so.a i.so.n i.so.c,.slice i.sf.a i.sf.n i.sf.c],.agg #[.slice p.ab p.nb p.cb,.slice p.sa p.ns p.cs],.func (.func 149) #[] #[.pointer (some ⟨E.heap.size,0,none⟩),.pointer (some ⟨E.heap.size+1,0,none⟩)],.int .i64 (b:Int),.pointer (some ⟨w.heap.size,1,none⟩),.slice p.sa p.ns p.cs,.int .i64 (p.ns:Int),.int .i64 (g:Int),.bool true,.int .i64 (g:Int),.agg #[.slice y.on.a y.on.n y.on.c,.slice y.os.a y.os.n y.os.c,.slice y.hs.a y.hs.n y.hs.c,.slice y.ms.a y.ms.n y.ms.c,.slice y.si.a y.si.n y.si.c,.slice y.so.a y.so.n y.so.c,.slice y.sf.a y.sf.n y.sf.c],.int .i64 (b:Int),.int .i64 (g:Int),.int .i64 LY,.pointer (some ⟨w.heap.size,0,none⟩),.slice (some ⟨bb,ob,none⟩) p.nb p.cb,.int .i64 (b:Int),.pointer (some ⟨bb,ob+b*4,none⟩),.pointer (some ⟨bb,ob+b*4+2,none⟩),.int .i64 LW,.bool false,.agg #[.slice p.ab p.nb p.cb,.slice p.sa p.ns p.cs],.func (.func 149) #[] #[.pointer (some ⟨H.heap.size,0,none⟩),.pointer (some ⟨H.heap.size+1,0,none⟩)],.int .i64 (f.1:Int),u44,u45,u46,u47,u48,u49,u50,u51,u52,u53,u54,u55,u56,u57,u58,u59,u60,u61,u62,u63,u64,u65,u66,undef],defers:=[] })
   (λ_ _ _ _ _ _ hs _ _=>hs)
   ?assign2 ?body2 ?done2 ?stop2
  case assign2 =>
   rintro l2 A f d K hi hK
   gi_wp2
   exact hK _ _ (KeepsFrom.refl _ _) ⟨Below.refl _ _,λ_ h=>h⟩ hi rfl
  case done2 =>
   rintro xs d rfl hi;have HJ:Hid (vh p L.heap.size M (E.heap.size+1) o (jg p b (g+1) Yb) d/\Blk d Bx 3 1 (λ_ => .int .i64 (b:Int))/\Below o.heap.size W d/\KeepsFrom W6.heap.size W d):=by
    show _/\_;rw[f0.out];exact⟨hi.1.1,hi.1.2.1,hi.2.2⟩
   clear hi
   gi_wp2_with fail
   go_roundw
   case rel=>exact⟨g+1,by omega,by go_num,HJ⟩
   case measure=>simp[intOf];omega
  case stop2 =>
   rintro c A d bi ⟨⟨rfl,h8,z,bf,bo⟩,es,cw⟩;have e1:jt p b g (frX p false p.nb) S=jt p b g A S:=Y4 bi rfl h8;have e2:jg p b p.ns Yb=jt p b g A S:=P3 (f0.out.trans e1) h8 (by omega);have ch:Hid (C9 p L.heap.size M o (.exit 0) (my p (pre++[⟨b,ad,b7⟩]) s) d):=by
    show C9 _ _ _ _ _ _ _;rw[f7.out,e2];exact⟨rfl,h8,z,bf,bo⟩
   clear e1 e2 bi h8 bf bo
   gi_wp2_with fail
   exact⟨cw,ch.out⟩
  case body2 =>
   rintro l2 A f fg d - - hi rfl -;obtain⟨f,br,dl⟩:=f;dsimp only;obtain⟨YF,db⟩:∃z,jt p b g A S=z:=⟨_,rfl⟩;have ch:Hid (jt p b g (A++[⟨f,br,dl⟩]) S=o5 p b g f YF):=by show _=_;rw[Nl,db]
   have fz:Hid (gp p s YF):=by show gp p s YF;rw[<-db];exact dd.out.F ad b7 bq _
   rw[db] at hi;clear db;obtain⟨⟨⟨⟨z,bf,bo⟩,ee⟩,d9,el⟩,d5,es,cw⟩:=hi;have HS:=hid bf;have f4:Hid (ar p z):=bf.right fz.out.r;have em:=hid bf.ms.1;have HK:Hid (de L.heap.size M o z d):=bo;have b3:Hid (Below o.heap.size W d/\KeepsFrom W6.heap.size W d):=⟨es,cw⟩;have J:=qa4 ee d9 el d5;have bt:o.heap.size<=d.heap.size:=bo.bel.size;have ms8:=f4.out.fm.ms8;obtain⟨m1,p0,p1,p2,p3,p4,p5,p6⟩:=Boxed.of HK.out.box;clear bf bo es cw ee d9 el d5;by_cases h8:z.ms.n=8
   .have hd:((z.ms.n:Int)==8)=true:=by rw[beq_iff_eq];omega
    have ib:Hid (C9 p L.heap.size M o (.exit 0) (jt p b g (A++[⟨f,br,dl⟩]) S) d):=by
     show C9 _ _ _ _ _ _ _;rw[ch.out,Ea (by rw[<-em.out];omega)];exact⟨rfl,by rw[<-em.out];omega,z,HS.out,HK.out⟩
    clear h8
    gi_wp2_with fail
    exact⟨KeepsFrom.refl _ _,ib.out,b3.out⟩
   have hd:((z.ms.n:Int)==8)=false:=beq_eq_false_iff_ne.2 (by omega);have ie:z.ms.n<8:=by omega
   obtain⟨c8,eh,bs,gd⟩:∃X,d.alloc (.cells #[.int .i64 (g:Int),.int .i64 (f:Int),.int .i64 (b:Int),.int .i64 0] 63)=X/\Below d.heap.size d X/\Blk X d.heap.size 63 4 (λj=>(#[.int .i64 (g:Int),.int .i64 (f:Int),.int .i64 (b:Int),.int .i64 0]:Array Value).getD j default):=⟨_,rfl,brf.alloc nlr _,Blk.mk' rfl rfl⟩;have cm:Hid (d.alloc (.cells #[.int .i64 (g:Int),.int .i64 (f:Int),.int .i64 (b:Int),.int .i64 0] 63)=c8):=eh;have cp:=hid bs;have ec:=hid gd;have bk:=hid (HK.out.below bs);have c7:=J.out.2.1.k 0;have dh:=J.out.2.1.lt;have dq:=J.out.2.2.1.k 0;have g2:=J.out.2.2.1.lt;obtain⟨⟨⟨l1,d0,d1⟩,-,-,-,-,-,-,-,-⟩,-,-,-,-⟩:=HC.out c8 bk.out.bel;obtain⟨n1,e0,e1,e2,e3,e4,e5,e6⟩:=Boxed.of bk.out.box;rw[<-cm.out] at l1 d0 d1 n1 e0 e1 e2 e3 e4 e5 e6;clear eh bs gd h8
   gi_wp2_with(refine⟨trivial,?_⟩;(first|gi_at_call 16|gi_at_call 90|gi_at_call 102|gi_at_call 89|gi_at_call 103);refine S5 ?_)
   refine J6 ?_;rw[cm.out];clear l1 d0 d1 n1 e0 e1 e2 e3 e4 e5 e6 m1 p0 p1 p2 p3 p4 p5 p6 c7 dh dq g2 cm;refine(CallsIn.inRound l2 (CallsIn.inRound l (callsIn_wide.2 (Vs p z g f b 0 c8 (HC.out c8 bk.out.bel).2.1 bk.out.own.at f4.out bq br ad)))).mono ?_;rintro e an ⟨rfl,cn⟩;have bd:Hid (px p z b g f=px p YF b g f):=Hc HS.out fz.out.r.fm ad bq br
   generalize px p z b g f=NN at *
   have f9:=cp.out.trans (cn.mono cp.out.size);have b9:=ec.out.below cn;have zl:=b9.lt;have dn:=b9.frozen 3;have zc3:=b9.k 3;have V:Hid (Below d.heap.size d (an.setCell ⟨d.heap.size,3,none⟩ (.int .i64 NN))):=f9.setCell (p:=⟨d.heap.size,3,none⟩) nlr _;have bp:Blk (an.setCell ⟨d.heap.size,3,none⟩ (.int .i64 NN)) d.heap.size 63 4 (λj=>(#[.int .i64 (g:Int),.int .i64 (f:Int),.int .i64 (b:Int),.int .i64 NN]:Array Value).getD j default):=(b9.set 3 _).congr λj hj=>by match j,hj with|0,_=>rfl|1,_=>rfl|2,_=>rfl|3,_=>rfl
   have a7:=hid (HK.out.below V.out);have i:=bp.k 0;have x1:=bp.k 1;have x2:=bp.k 2;have x3:=bp.k 3;have xl:=bp.lt;clear cn f9 b9 ec bk cp bp;by_cases h1:1<=NN;rotate_left
   .have ed:Hid (af z (jt p b g (A++[⟨f,br,dl⟩]) S)):=by
     rw[ch.out];unfold o5;rw[<-bd.out,if_neg (λc=>h1 c.2)];exact HS.out
    clear bd
    gi_wp2_with fail
    refine⟨(un V.out).from _,Ki (V.out.mono bt) J.out.2.2.2 (J.out.2.2.2.below V.out),⟨⟨⟨z,ed.out,a7.out⟩,J.out.1.below V.out⟩,J.out.2.1.below V.out,J.out.2.2.1.below V.out⟩,J.out.2.2.2.below V.out,b3.out.1.trans (V.out.mono bt),b3.out.2.trans ((un V.out).from _)⟩
   have fv:Hid (o5 p b g f YF=ja YF ⟨g,f,b,NN⟩):=by
    show _=_;unfold o5;rw[<-bd.out,if_pos ⟨by rw[<-em.out];exact ie,h1⟩]
   obtain⟨iM,hM,hn,hx,h7⟩:=info_parts Ec;have eq:(an.setCell ⟨d.heap.size,3,none⟩ (.int .i64 NN)).heap.size=an.heap.size:=by simp
   obtain⟨eg,co,bu⟩:∃X,(an.setCell ⟨d.heap.size,3,none⟩ (.int .i64 NN)).alloc (.cells #[.int .i64 (g:Int),.int .i64 (f:Int),.int .i64 (b:Int),.int .i64 NN] 63)=X/\Below (an.setCell ⟨d.heap.size,3,none⟩ (.int .i64 NN)).heap.size (an.setCell ⟨d.heap.size,3,none⟩ (.int .i64 NN)) X:=⟨_,rfl,brf.alloc nlr _⟩;have et:Hid ((an.setCell ⟨d.heap.size,3,none⟩ (.int .i64 NN)).alloc (.cells #[.int .i64 (g:Int),.int .i64 (f:Int),.int .i64 (b:Int),.int .i64 NN] 63)=eg):=co;have gs:Hid (∀j u,(dc ⟨g,f,b,NN⟩)[j]?=some u->eg.cell? ((⟨an.heap.size,0,none⟩:Addr).add j)=some u):=by
    have h:=ab6 (an.setCell ⟨d.heap.size,3,none⟩ (.int .i64 NN)) ⟨g,f,b,NN⟩ 63;rw[eq] at h;rw[<-co];exact h
   obtain⟨n1,e0,e1,e2,e3,e4,e5,e6⟩:=Boxed.of a7.out.box;have am:=hid (a7.out.below bu);have bz:=hid (V.out.trans (bu.mono V.out.size));have jf:=am.out.own.ms.1;have he:=am.out.own.ms.2.1;unfold maxLen at he;clear co bu e0 e1 e2 e4 e5 e6 a7 V eq
   gi_wp2_with(gi_at_builtin;rw[et.out];refine Ia eg rfl (.tmp 61) (.tmp 63) 29 rfl L.heap.size 63 iM (.agg #[.int .i64 0,.int .i64 0,.int .i64 0,.int .i64 0]) 4 32 underlying29 hM hn hx h7 rfl (by decide) z.ms.a z.ms.n z.ms.c (ay z.ms.n z.ms.z) rfl am.out.own.msr am.out.own.ms.1 am.out.own.ms.2.1 (eu _ _) am.out.own.ms.2.2.2 ⟨an.heap.size,0,none⟩ 1 1 (dc ⟨g,f,b,NN⟩) rfl rfl gs.out (λu hu=>by simp[dc] at hu;rcases hu with rfl|rfl|rfl|rfl<;>rfl) (by decide) ?zc3 ?zc4 am.out.le ?_)
   case zc3=>unfold maxLen;omega
   case zc4=>omega
   intro v2 ew da bj;obtain⟨k,rfl,gr,kn,kz,kl,a2⟩:=am.out.more A2 A3 da bj;have d7:=hid bj;have il:=hid gr;have ed:Hid (af (withMoves z k) (jt p b g (A++[⟨f,br,dl⟩]) S)):=by
    rw[ch.out,fv.out];exact D1 HS.out _ kn kz kl
   have cc:Hid (∀q t m g',t≠63->t≠31->Blk d q t m g'->Blk (ew.setCell ⟨M,3,none⟩ (.slice k.a k.n k.c)) q t m g'):=λq t m g' h1 h2 hb=>by
    have h3:=d7.out.blk (hb.below bz.out) h1;exact h3.other (a:=⟨M,3,none⟩) (Blk.ne2 h3 a2 h2) _
   have gb:Hid (Below o.heap.size d (ew.setCell ⟨M,3,none⟩ (.slice k.a k.n k.c))):=(d7.out.below (bz.out.mono bt) A2 (Qzx bt bz.out.size)).setCell (p:=⟨M,3,none⟩) (by show o.heap.size<=M;omega) _;have f2:Hid (KeepsOthers d (ew.setCell ⟨M,3,none⟩ (.slice k.a k.n k.c))):=((un bz.out).trans d7.out.keeps).trans (KeepsOthers.setCell _ _ _);have z1:=a2.lt;have z2:=a2.frozen 3;have z3:=a2.k 3;clear da bj gr kn kz kl a2 gs et n1 e3 i x1 x2 x3 xl zl dn zc3 fv bd
   try simp only[Act.put,Qvq,Qwx,Qwz]
   gi_wp2_with fail
   refine⟨f2.out.from _,Ki gb.out J.out.2.2.2 (cc.out _ _ _ _ (by decide) (by decide) J.out.2.2.2),⟨⟨⟨withMoves z k,ed.out,il.out⟩,cc.out _ _ _ _ (by decide) (by decide) J.out.1⟩,cc.out _ _ _ _ (by decide) (by decide) J.out.2.1,cc.out _ _ _ _ (by decide) (by decide) J.out.2.2.1⟩,cc.out _ _ _ _ (by decide) (by decide) J.out.2.2.2,b3.out.1.trans gb.out,b3.out.2.trans (f2.out.from _)⟩
 case done =>
  rintro D xs W hD rfl ⟨⟨x,ca,a3⟩,-⟩ hK;have ek:=hid ca;clear ca;obtain⟨m1,p0,p1,p2,p3,p4,p5,p6⟩:=Boxed.of a3.box;obtain⟨-,-,-,ac,hz⟩:=HC.out W a3.bel;have HZ:=qa2 ac hz;obtain⟨zl,f8,gh,fp,zc1,gk,zc2,dn,zc3,gg,zc4,fh,zc5,fi,fr⟩:=z7 hz;have gt:=(HC.out _ brf).2.2.2.1.size;have a7:=hid a3;have en:=hid hK;clear ac hz a3 hK
  gi_wp2_with fail
  have KZ:=s7b HZ.out.2 x;have av:=s7w (b:=w.heap.size+2) HZ.out.1 (by omega) x;have b6:=s7o a7.out.own HZ.out.2 x;have bg:=(Qw (w:=W) (show D≠w.heap.size+2 by omega) (.slice x.on.a x.on.n x.on.c) (.slice x.os.a x.os.n x.os.c) (.slice x.hs.a x.hs.n x.hs.c) (.slice x.ms.a x.ms.n x.ms.c) (.slice x.si.a x.si.n x.si.c) (.slice x.so.a x.so.n x.so.c) (.slice x.sf.a x.sf.n x.sf.c)).trans en.out;unfold set7 at KZ av b6 bg;have ck:=jr.of (grownBy_putObj' _ D (.deferred none)) (λr e=>by cases e;exact⟨_,bg,rfl⟩);have ea:=KZ.ck ck;have bh:=b6.ck ck;have ci:=av.grown (grownBy_putObj' _ D (.deferred none)) (by have:=av.size;omega) (λk e=>by cases e;omega);obtain⟨cg,b8,b2,b4,b1,cd,cf⟩:=df ea;refine Jm (v := .tuple #[x.val,.int .i64 0]) bg (by simp[results,results46,go_sem,St.val,cg,b8,b2,b4,b1,cd,cf]) rfl ?_;exact⟨x,by rw[H0.out];rfl,bh.at,⟨λ_=>ek.out,λh=>absurd H0.out h⟩,λ_=>bh.mono (by omega),ci⟩
 case stop =>
  rintro D c pre W hD bi ⟨rfl,h8,x,ca,a3⟩ hK;have ek:Hid (af x (Cl p s)):=by
   have e:Cl p s=my p pre s:=Y3 bi rfl h8;rw[e];exact ca
  clear ca h8 bi;obtain⟨m1,p0,p1,p2,p3,p4,p5,p6⟩:=Boxed.of a3.box;obtain⟨-,-,-,ac,hz⟩:=HC.out W a3.bel;have HZ:=qa2 ac hz;obtain⟨zl,f8,gh,fp,zc1,gk,zc2,dn,zc3,gg,zc4,fh,zc5,fi,fr⟩:=z7 hz;have gt:=(HC.out _ brf).2.2.2.1.size;have a7:=hid a3;have en:=hid hK;clear ac hz a3 hK
  gi_wp2_with fail
  have KZ:=s7b HZ.out.2 x;have av:=s7w (b:=w.heap.size+2) HZ.out.1 (by omega) x;have b6:=s7o a7.out.own HZ.out.2 x;have bg:=(Qw (w:=W) (show D≠w.heap.size+2 by omega) (.slice x.on.a x.on.n x.on.c) (.slice x.os.a x.os.n x.os.c) (.slice x.hs.a x.hs.n x.hs.c) (.slice x.ms.a x.ms.n x.ms.c) (.slice x.si.a x.si.n x.si.c) (.slice x.so.a x.so.n x.so.c) (.slice x.sf.a x.sf.n x.sf.c)).trans en.out;unfold set7 at KZ av b6 bg;have ck:=jr.of (grownBy_putObj' _ D (.deferred none)) (λr e=>by cases e;exact⟨_,bg,rfl⟩);have ea:=KZ.ck ck;have bh:=b6.ck ck;have ci:=av.grown (grownBy_putObj' _ D (.deferred none)) (by have:=av.size;omega) (λk e=>by cases e;omega);obtain⟨cg,b8,b2,b4,b1,cd,cf⟩:=df ea;refine Jm (v := .tuple #[x.val,.int .i64 0]) bg (by simp[results,results46,go_sem,St.val,cg,b8,b2,b4,b1,cd,cf]) rfl ?_;exact⟨x,by rw[H0.out];rfl,bh.at,⟨λ_=>ek.out,λh=>absurd H0.out h⟩,λ_=>bh.mono (by omega),ci⟩
theorem X9(p:Pl)(s:St)(k n:Int)(w:World)(hp:p.At w)(hs:s.At w):
  Calls prog 47 #[p.val,s.val,.int .i64 k,.int .i64 n] w λe V=>∃x:St,e = .returned (.tuple #[x.val,.int .i64 (gu p s k n)])/\x.At V/\ij (gu p s k n) (jz s k.toNat n) x/\(gu p s k n=0->ai w.heap.size V x)/\Below w.heap.size w V:=by
 obtain⟨W0,hW,e8,X0,Z0⟩:=Cd w p s;have HC:=Bb hp hs e8 X0 Z0;have HW:=hid hW;have leb:=hp.leb;have bz:=hp.capb;have les:=hp.les;have b7:=hp.caps;have capb:=bz;have caps:=b7;have gj:=Z0.lt;unfold maxLen at capb caps;have d4:=hs.ms.le;have bl:=hs.ms.cap;have am:s.ms.n<=maxLen:=Qzx d4 bl;have dx:=bl;have d3:=am;unfold maxLen at dx d3;clear hW X0 Z0 hp hs;unfold Pl.val St.val;go_enter func47,ntmps47;go_wp2_with fail;rw[HW.out];obtain⟨X,F,y,B,E⟩:=HC.out W0 brf;refine(lg p s W0 F y).mono ?_;rintro e w1 ⟨rfl,hB⟩;clear X F y B E HW;obtain⟨⟨⟨l1,d0,d1⟩,l2,c0,c1,c2,c3,c4,c5,c6⟩,F,y,B,E⟩:=HC.out w1 hB;by_cases h0:ag p s=0;rotate_left
 .have S:Hid (gu p s k n=ag p s):=x9 h0;have e9:Hid (¬gu p s k n=0):=by show ¬_;rw[x9 h0];exact h0
  have g0:(ag p s !=0)=true:=by simpa using h0
  clear h0;clear F y;obtain⟨zl,bs,bx,bu,zc1,b0,zc2,ad,zc3,bw,zc4,bn,zc5,bp,bv⟩:=z7 E;go_wp2_with fail;exact ip results47 E B (by omega) S.out (λh=>e9.out (S.out.trans h)) rfl rfl rfl
 have H0:=hid h0;have J:Hid (ar p s):=dp h0;rw[h0];clear h0;cases h1:inB k 0 ((s.ms.n:Int)-1)
 .have S:Hid (gu p s k n=4):=F1 H0.out h1;clear F y;obtain⟨zl,bs,bx,bu,zc1,b0,zc2,ad,zc3,bw,zc4,bn,zc5,bp,bv⟩:=z7 E;go_wp2_with(go_at_call 71;refine ah (dm _ _ _ am) ?_);exact ip results47 E B (by omega) S.out (by decide) rfl rfl rfl
 obtain⟨i,rfl⟩:∃i:Nat,k=i:=⟨k.toNat,by have:=au h1;omega⟩;have hi:i<s.ms.n:=by have:=au h1;omega
 have ab:=rv (J.out.fm.move i hi);obtain⟨f,b,g,N,hm⟩:∃(f b g:Nat) (N:Int),s.ms.z i=⟨g,f,b,N⟩:=⟨(s.ms.z i).l.toNat,(s.ms.z i).b.toNat,(s.ms.z i).o.toNat,(s.ms.z i).n,by rw[Int.toNat_of_nonneg ab.1.1,Int.toNat_of_nonneg ab.2.1.1,Int.toNat_of_nonneg ab.2.2.1.1]⟩;have HM:=hid hm;rw[hm] at ab;dsimp only at ab;obtain⟨u1,u2,u3,u4,u5,u6⟩:=ab;have L:g<p.ns:=by omega
 have ac:f<p.nb:=by omega
 have az:b<p.nb:=by omega
 have cr:¬f=b:=by omega
 have H1:=hid h1;obtain⟨bm,om,dd,fp,y0,y1,y2,y3⟩:=y.ms.hds i hi;rw[hm] at y0 y1 y2 y3;dsimp only at y0 y1 y2 y3;have fc:=hid dd;rw[dd] at c3;obtain⟨W2,dw,cn,K2⟩:∃W,w1.alloc (.cells #[.int .i64 (g:Int),.int .i64 (f:Int),.int .i64 (b:Int),.int .i64 N] 63)=W/\Below w1.heap.size w1 W/\Blk W w1.heap.size 63 4 (λj=>(#[.int .i64 (g:Int),.int .i64 (f:Int),.int .i64 (b:Int),.int .i64 N]:Array Value).getD j default):=⟨_,rfl,brf.alloc nlr _,Blk.mk' rfl rfl⟩;have d2:Hid (w1.alloc (.cells #[.int .i64 (g:Int),.int .i64 (f:Int),.int .i64 (b:Int),.int .i64 N] 63)=W2):=dw;have bt:=hB.trans (cn.mono hB.size);have u:=hid K2;have q0:(0:Int)<=(i:Int):=by omega
 have q1:(i:Int)<(s.ms.n:Int):=by omega
 have A1:W0.heap.size<=w1.heap.size:=hB.size;clear F y B E dd dw K2 hm;go_wp2_with(go_at_call 71;refine ah (dm _ _ _ am) ?_);rw[d2.out];refine ah (co _ _ _ _) ?_;clear l1 d0 d1 l2 c0 c1 c2 c3 c4 c5 c6 fp y0 y1 y2 y3 d2 cn hB h1
 generalize w1.heap.size=P at *
 obtain⟨⟨⟨l1,d0,d1⟩,l2,c0,c1,c2,c3,c4,c5,c6⟩,F,y,B,E⟩:=HC.out W2 bt;rw[fc.out] at c3;cases h2:inB n 0 N
 .have S:Hid (gu p s i n=3):=Ef H0.out H1.out (by rw[Int.toNat_natCast,HM.out];exact h2);clear F y;obtain⟨zl,bs,bx,bu,zc1,b0,zc2,ad,zc3,bw,zc4,bn,zc5,bp,bv⟩:=z7 E;go_wp2_with fail;exact ip results47 E B (by omega) S.out (by decide) rfl rfl rfl
 have nn:=au h2;have H2:Hid (inB n 0 (s.ms.z (i:Int).toNat).n=true):=by show inB n 0 (s.ms.z (i:Int).toNat).n=true;rw[Int.toNat_natCast,HM.out];exact h2
 have ao:b<s.on.n:=by rw[J.out.fm.sh.n];exact az
 have rn:=J.out.fm.sh.len b ao;have ce:Hid ((s.on.r (s.ms.z (i:Int).toNat).b.toNat).z (s.ms.z (i:Int).toNat).o.toNat=(s.on.r b).z g):=by show _=_;rw[Int.toNat_natCast,HM.out];simp only[Int.toNat_natCast]
 obtain⟨bo,oo,ea,fs,z0,al⟩:=y.on.rows b ao;obtain⟨br,gx,d8,fw,z1⟩:=al.ints g (by omega);have v1:=al.le;have v2:=al.cap;have v3:=y.on.le;have v4:=y.on.cap;unfold maxLen at v2 v4;have zb:=J.out.fm.sh.num b ao g L;have m0:W2.cell? ⟨P,0,none⟩=some (.int .i64 g):=u.out.k 0;have m2:W2.cell? ⟨P,2,none⟩=some (.int .i64 b):=u.out.k 2;have ml:=u.out.lt;have q2:(0:Int)<=(b:Int):=by omega
 have q3:(b:Int)<(s.on.n:Int):=by omega
 have q4:(0:Int)<=(g:Int):=by omega
 have q5:(g:Int)<((s.on.r b).n:Int):=by omega
 rw[ea] at c0;rw[d8] at z0;have fd:=Qqq c0;have fu:=Qqq z0;have f2:=Qqq z1;have ax:=Qqq m0;have ft:=Qqq m2
 generalize hZB:(s.on.r b).z g=ZB at *
 clear ea d8 al c1 c2 c3 c4 c5 c6 d0 d1 m0 m2 z0 z1 c0;go_wp2_with fail;refine Qxq (by kernel_rfl) (by kernel_rfl) ?_
 repeat(go_big_quiet_step(fail))
 refine Qqz ?_;intro K eb;have bi:=ae eb;have u:=hid (u.out.below bi);have b4:=bt.trans (bi.mono bt.size);clear fd fu f2 ax ft eb fs fw ml F y B E l1 l2 bi bt v1 v2 v3 v4;obtain⟨⟨⟨l1,d0,d1⟩,l2,c0,c1,c2,c3,c4,c5,c6⟩,F,y,B,E⟩:=HC.out K b4;by_cases h3:200<ZB+n
 .have S:Hid (gu p s i n=2):=F0 H0.out H1.out H2.out (by rw[ce.out];exact h3);have dv:200-ZB<n:=by omega
  clear F y;obtain⟨zl,bs,bx,bu,zc1,b0,zc2,ad,zc3,bw,zc4,bn,zc5,bp,bv⟩:=z7 E;go_wp2_with fail;exact ip results47 E B (by omega) S.out (by decide) rfl rfl rfl
 have S:Hid (gu p s i n=0):=Qn H0.out H1.out H2.out (by rw[ce.out];exact h3);have HI:Hid (p8 p s i f b g N n):=⟨J.out,hi,HM.out,ac,az,L,cr,nn.1,nn.2,u5,u6,by rw[hZB];omega⟩;have dv:¬200-ZB<n:=by omega
 have dz:Hid (Calls prog 90 #[s.val] K λe V=>∃s':St,e = .returned s'.val/\af s' s/\ai K.heap.size V s'/\Below K.heap.size K V):=ov p s K y J.out.fm;have gv:=hid B;clear F y B E h3 ce;go_wp2_with fail;refine Calls.mono dz.out ?_;rintro e w4 ⟨t,rfl,A,dc,b9⟩;clear dz l1 d0 d1 l2 c0 c1 c2 c3 c4 c5 c6 h2 dv;have bq:=hid A;have ec:i<t.ms.n:=by rw[A.ms.1];exact hi
 have cx:f<t.on.n:=by rw[A.on.1,J.out.fm.sh.n];exact ac
 have ck:b<t.on.n:=by rw[A.on.1,J.out.fm.sh.n];exact az
 have dj:g<(t.on.r f).n:=by rw[(A.on.2 f cx).1,J.out.fm.sh.len f (by rw[J.out.fm.sh.n];exact ac)];exact L
 have ch:g<(t.on.r b).n:=by rw[(A.on.2 b ck).1,J.out.fm.sh.len b ao];exact L
 have vf:0<=(t.on.r f).z g/\(t.on.r f).z g<=200:=by rw[A.num J.out.fm ac L];exact J.out.fm.sh.num f (by rw[J.out.fm.sh.n];exact ac) g L
 have vb:0<=(t.on.r b).z g/\(t.on.r b).z g<=200:=by rw[A.num J.out.fm az L,hZB];exact zb
 obtain⟨W5,d7,bk,K5⟩:=ab7 w4 t;have cq:=hid d7;have aj:=b9.trans (bk.mono b9.size);have A2:W0.heap.size<=K.heap.size:=b4.size;have A3:K.heap.size<=w4.heap.size:=b9.size;have aa:Hid (de K.heap.size w4.heap.size W0 t W5):=⟨ai.below dc bk,K5,b4.trans (aj.mono b4.size),by have:=aj.size;omega⟩;have cp:P<K.heap.size:=u.out.lt;have u:=hid (u.out.below aj);clear d7 dc K5 b9 bk aj A zb;obtain⟨m1,p0,p1,p2,p3,p4,p5,p6⟩:=Boxed.of aa.out.box;have q6:(i:Int)+1<=9223372036854775807:=by omega
 rw[<-cq.out] at m1 p0 p1 p2 p3 p4 p5 p6;simp only[St.val];go_wp2_with fail;rw[cq.out];clear m1 p0 p1 p2 p3 p4 p5 p6 cq;refine Calls.mono (aak K.heap.size t i W5 aa.out.le aa.out.own ec) ?_;rintro e w6 ⟨rfl,b8,c7,cy⟩
 generalize w4.heap.size=U at *
 have M:=cy _ _ _ _ (by decide) aa.out.box;have ap:Hid (de K.heap.size U W0 (withMoves t (C3 t.ms i)) (w6.setCell ⟨U,3,none⟩ (.slice t.ms.a (t.ms.n-1) t.ms.c))):=aa.out.moves A2 A3 (m:=C3 t.ms i) b8 c7 cy;have u:Hid (Blk (w6.setCell ⟨U,3,none⟩ (.slice t.ms.a (t.ms.n-1) t.ms.c)) P 63 4 (λj=>(#[.int .i64 (g:Int),.int .i64 (f:Int),.int .i64 (b:Int),.int .i64 N]:Array Value).getD j default)):=(u.out.same (c7.block P cp)).other (a:=⟨U,3,none⟩) (show P≠U by omega) _;have zl:=M.lt;have ad:=M.frozen 3;have zc3:=M.k 3;clear b8 c7 cy M aa;go_wp2_with fail;clear zl ad zc3
 generalize w6.setCell ⟨U,3,none⟩ (.slice t.ms.a (t.ms.n-1) t.ms.c)=W7 at *
 generalize hx1:withMoves t (C3 t.ms i)=D at *
 have b6:f<D.on.n:=by rw[<-hx1];exact cx
 have dy:b<D.on.n:=by rw[<-hx1];exact ck
 have bf:g<(D.on.r f).n:=by rw[<-hx1];exact dj
 have dk:g<(D.on.r b).n:=by rw[<-hx1];exact ch
 have wf:0<=(D.on.r f).z g/\(D.on.r f).z g<=200:=by rw[<-hx1];exact vf
 have wb:0<=(D.on.r b).z g/\(D.on.r b).z g<=200:=by rw[<-hx1];exact vb
 have d5:=hid hx1;clear hx1 vf vb;obtain⟨g0,G,a1,a2,a3,a4,a5,a6,a7,a8,a9,ct,cz,ay⟩:=ap.out.own.onCell b6 bf;have u0:W7.cell? ⟨U,0,none⟩=some (.slice D.on.a D.on.n D.on.c):=ap.out.box.k 0;have cu:=ap.out.box.lt;rw[a1] at u0;unfold maxLen at a8 ay;have m0:W7.cell? ⟨P,0,none⟩=some (.int .i64 g):=u.out.k 0;have m1:W7.cell? ⟨P,1,none⟩=some (.int .i64 f):=u.out.k 1;have ml:=u.out.lt;have r0:(0:Int)<=(f:Int):=by omega
 have r1:(f:Int)<(D.on.n:Int):=by omega
 have r2:(0:Int)<=(g:Int):=by omega
 have r3:(g:Int)<((D.on.r f).n:Int):=by omega
 have ci:=Qqq u0;have cj:=Qqq a3;have db:=Qqq a9;have ax:=Qqq m0;have cm:=Qqq m1;clear u0 a1 a3 a9 m0 m1;refine jh [(true,[0,1,2,3,4,5,6,7,8,9,10,11,12],some 13)] ?_;refine⟨λV=>∃p:Regrown,V=grow (redrawn W7 p.d) p.os,Qqx (brf.drew),λh=>(by cases h),?_⟩;simp only[du,Qyq,Xqq,Qyx,Qyz,Xqz,Xqx]
 repeat(go_big_quiet_step(fail))
 refine Qqz ?_;clear ci cj db ax cm cu ml a2 a6 ct;have Q:Below W7.heap.size W7 W7.drew:=brf.drew
 generalize W7.drew=wj at *
 have T:=hid (ap.out.below Q);have aw:=hid (u.out.below Q);have Y:=(T.out.own.rowBlk b6 a4).2;have b1:=Y.lt;have b2:=Y.frozen g;have b3:=Y.cell bf;have av:Hid (de K.heap.size U W0 (setOn D f g ((D.on.r f).z g-n)) (wj.setCell ⟨G,g,none⟩ (.int .i64 ((D.on.r f).z g-n)))):=T.out.setOn A2 b6 a4 g _;have u:Hid (Blk (wj.setCell ⟨G,g,none⟩ (.int .i64 ((D.on.r f).z g-n))) P 63 4 (λj=>(#[.int .i64 (g:Int),.int .i64 (f:Int),.int .i64 (b:Int),.int .i64 N]:Array Value).getD j default)):=aw.out.other (a:=⟨G,g,none⟩) (Blk.ne2 aw.out Y (by decide)) _;clear Q Y ap T aw a4 a5 a7 a8 cz ay;refine li 13 rfl ?_;go_wp2_with fail;refine NoPanic.normal ?_;clear b1 b2 b3 r0 r1 r2 r3
 generalize wj.setCell ⟨G,g,none⟩ (.int .i64 ((D.on.r f).z g-n))=W8 at *
 go_wp2_with fail
 generalize hx2:setOn D f g ((D.on.r f).z g-n)=H at *
 have d6:=hid hx2;have b5:b<H.on.n:=by rw[<-hx2];exact dy
 have bj:g<(H.on.r b).n:=by rw[<-hx2,s9];exact dk
 have di:Hid ((H.on.r b).z g=(D.on.r b).z g):=by show(H.on.r b).z g=_;rw[<-hx2,Cx,if_neg (λe=>cr e.1.symm)]
 have fe:0<=(H.on.r b).z g/\(H.on.r b).z g<=200:=by rw[di.out];exact wb
 clear hx2;obtain⟨g0,G,a1,a2,a3,a4,a5,a6,a7,a8,a9,ct,cz,ay⟩:=av.out.own.onCell b5 bj;have u0:W8.cell? ⟨U,0,none⟩=some (.slice H.on.a H.on.n H.on.c):=av.out.box.k 0;have cu:=av.out.box.lt;rw[a1] at u0;unfold maxLen at a8 ay;have m0:W8.cell? ⟨P,0,none⟩=some (.int .i64 g):=u.out.k 0;have m1:W8.cell? ⟨P,2,none⟩=some (.int .i64 b):=u.out.k 2;have ml:=u.out.lt;have r0:(0:Int)<=(b:Int):=by omega
 have r1:(b:Int)<(H.on.n:Int):=by omega
 have r2:(0:Int)<=(g:Int):=by omega
 have r3:(g:Int)<((H.on.r b).n:Int):=by omega
 have ci:=Qqq u0;have cj:=Qqq a3;have db:=Qqq a9;have ax:=Qqq m0;have cm:=Qqq m1;clear u0 a1 a3 a9 m0 m1;refine jh [(true,[0,1,2,3,4,5,6,7,8,9,10,11,12],some 13)] ?_;refine⟨λV=>∃p:Regrown,V=grow (redrawn W8 p.d) p.os,Qqx (brf.drew),λh=>(by cases h),?_⟩;simp only[du,Qyq,Xqq,Qyx,Qyz,Xqz,Xqx]
 repeat(go_big_quiet_step(fail))
 refine Qqz ?_;clear ci cj db ax cm cu ml a2 a6 ct;have Q:Below W8.heap.size W8 W8.drew:=brf.drew
 generalize W8.drew=wj at *
 have T:=hid (av.out.below Q);have aw:=hid (u.out.below Q);have Y:=(T.out.own.rowBlk b5 a4).2;have b1:=Y.lt;have b2:=Y.frozen g;have b3:=Y.cell bj;have cs:Hid (de K.heap.size U W0 (setOn H b g ((H.on.r b).z g+n)) (wj.setCell ⟨G,g,none⟩ (.int .i64 ((H.on.r b).z g+n)))):=T.out.setOn A2 b5 a4 g _;clear Q Y av T aw a4 a5 a7 a8 cz ay;refine li 13 rfl ?_;go_wp2_with fail;refine NoPanic.normal ?_;clear b1 b2 b3 r0 r1 r2 r3
 generalize wj.setCell ⟨G,g,none⟩ (.int .i64 ((H.on.r b).z g+n))=W9 at *
 generalize hx3:setOn H b g ((H.on.r b).z g+n)=x3 at *
 have fi:Hid (af x3 (jz s i n)):=by
  have h:=Co HI.out bq.out (q:=C3 t.ms i) (by show t.ms.n-1=_;rw[bq.out.ms.1]) (λj hj=>by
   have gw:j<t.ms.n-1:=hj;show(if j<i then t.ms.z j else t.ms.z (j+1))=if j<i then s.ms.z j else s.ms.z (j+1);rw[bq.out.ms.2 j (by omega),bq.out.ms.2 (j+1) (by omega)])
  have e:ve t (C3 t.ms i) f b g n=x3:=by
   unfold ve;rw[<-hx3,di.out,<-d6.out,<-d5.out]
   rfl
  rw[e] at h;exact h
 clear hx3 di;obtain⟨m1,p0,p1,p2,p3,p4,p5,p6⟩:=Boxed.of cs.out.box;obtain⟨-,-,-,B,E⟩:=HC.out W9 cs.out.bel;have HZ:=qa2 B E;obtain⟨zl,bs,bx,bu,zc1,b0,zc2,ad,zc3,bw,zc4,bn,zc5,bp,bv⟩:=z7 E;have f9:=(HC.out _ brf).2.2.2.1.size;clear B E ec cx ck dj ch b6 dy bf dk wf wb b5 bj fe u1 u2 u3 u4 u5 u6 q0 q1 q2 q3 q4 q5 q6 rn hZB hi ao nn L ac az cr cp d5 d6 d4 bl am dx d3 leb bz les b7 capb caps;go_wp2_with fail;have KZ:=s7b HZ.out.2 x3;have d9:=s7w (b:=w.heap.size+2) HZ.out.1 (by omega) x3;have dh:=s7o cs.out.own HZ.out.2 x3;unfold set7 at KZ d9 dh;obtain⟨f3,fo,fj,fy,e6,fx,f4⟩:=df KZ;refine Xzq (v := .tuple #[x3.val,.int .i64 0]) (by simp[results,results47,go_sem,St.val,f3,fo,fj,fy,e6,fx,f4]) rfl ?_;exact⟨x3,by rw[S.out];rfl,dh.at,⟨λ_=>fi.out,λh=>absurd S.out h⟩,λ_=>dh.mono (by omega),d9⟩
end Go.Proofs.YtbcacebifpagpagGreat
namespace Go.Proofs.YtbcacebifpagpagGreat
variable{n b A g o l c i q j R L M:Nat}{w a d:World}{s x y u:St}{r W J D:Int}{e H:TypeId}{p:Pl}{z O:Nat->Hd}{f f':Nat->Value}{Q:Exit->Act->World->Prop}{v c1 c3 c2:Value}{xs:List Value}{U V:Hs}{X Y:Int->Int->Int}{P:Program}{h Z:Hd}{t:List UInt8}{E:Hd->Bool}{z' zs:Nat->Int}{S:World->Prop}{a1:Act}{K:Act->World->Prop}
open _root_.Go.Proofs.Tryz
open Go.RowKit Go.MapKept Go.ChangeMaps
def ou(o l:Nat):Value := .agg #[.int .i64 (o:Int),.int .i64 (l:Int)]
theorem S0{a:Nat}(h:ou o l=ou a b):o=a/\l=b:=by
 unfold ou at h;simp only[Value.agg.injEq] at h;have d:(#[.int .i64 (o:Int),.int .i64 (l:Int)]:Array Value)[0]?=(#[.int .i64 (a:Int),.int .i64 (b:Int)]:Array Value)[0]?:=by rw[h]
 have c:(#[.int .i64 (o:Int),.int .i64 (l:Int)]:Array Value)[1]?=(#[.int .i64 (a:Int),.int .i64 (b:Int)]:Array Value)[1]?:=by rw[h]
 simp at d c;omega
theorem Ca:WideMaps.KeyLaw prog 180 :=
 deep_law_gate (show laidOutB prog=true by kernel_rfl) (of_decide_eq_true (by kernel_rfl)) (of_decide_eq_true (by kernel_rfl)) (by kernel_rfl) (by kernel_rfl)
theorem abb:((List.range 4).all λo=>(List.range 3).all λl=>(keyOf prog 180 (ou o l)).isSome)=true:=by kernel_rfl
theorem Pa(a:o<4)(b:l<3):∃k,keyOf prog 180 (ou o l)=some k :=
 Option.isSome_iff_exists.1 (List.all_eq_true.1 (List.all_eq_true.1 abb o (List.mem_range.2 a)) l (List.mem_range.2 b))
theorem Fc:prog.underlying 137=some (.map 180 3):=by kernel_rfl
def la(w:World)(r:Nat)(q:Int->Int->Int):Prop:=∃es clock,w.heap[r]?=some (.map es clock)/\Stamped es clock/\(∀x,x∈es.toList->∃o l:Nat,o<4/\l<3/\x.key=ou o l/\x.val = .int .i64 (q o l))/\∀o l:Nat,o<4->l<3->(∀x,x∈es.toList->x.key≠ou o l)->q o l=0
theorem la.lt{q:Int->Int->Int}(h:la w n q):n<w.heap.size:=by
 obtain⟨b,c,a,-⟩:=h;exact(Qkq a).1
theorem la.same{q:Int->Int->Int}(h:la w n q)(e:a.heap[n]?=w.heap[n]?):la a n q:=by
 obtain⟨b,c,f,d⟩:=h;exact⟨b,c,e.trans f,d⟩
theorem la.below{q:Int->Int->Int}(h:la w n q)(b:Below w.heap.size w a):la a n q:=h.same (b.block n h.lt)
theorem la.set{q:Int->Int->Int}(h:la w n q)(a:n≠g)(u:Value):la (w.setCell ⟨g,j,none⟩ u) n q:=h.same (Below.heap_setCell w ⟨g,j,none⟩ u n a)
theorem la.new(w:World):la (w.alloc (.map #[] 0)) w.heap.size (λ_ _=>0):=by
 refine⟨#[],0,(heap_alloc w _).1,stamped_empty 0,λx hx=>by simp at hx,λ_ _ _ _ _=>rfl⟩
theorem la.congr{q d:Int->Int->Int}(h:la w A q)(e:∀o l:Nat,o<4->l<3->d o l=q o l):la w A d:=by
 obtain⟨f,c,g,n,j,k⟩:=h;refine⟨f,c,g,n,λx hx => ?_,λo l b a p=>by rw[e o l b a];exact k o l b a p⟩;obtain⟨o,l,b,a,m,i⟩:=j x hx;exact⟨o,l,b,a,m,by rw[e o l b a];exact i⟩
theorem la.keys{a:Array MapEntry}{q:Int->Int->Int}(c:∀x,x∈a.toList->∃o l:Nat,o<4/\l<3/\x.key=ou o l/\x.val = .int .i64 (q o l)):∀e∈a.toList,∃l,keyOf prog 180 e.key=some l:=λe f=>by
 obtain⟨o,l,g,b,d,-⟩:=c e f;rw[d];exact Pa g b
theorem Sz{q:Int->Int->Int}(h:la w A q)(n:o<4)(g:l<3):(Instr.lookup 137 (.map (some A)) (ou o l) false).run prog w = .ok (.int .i64 (q o l)) w:=by
 obtain⟨p,c,i,y,m,u⟩:=h;obtain⟨k,d⟩:=Pa n g;rcases Ca.find w d p.toList (la.keys m) with⟨f,b⟩|⟨j,e,f,b,f3⟩
 .have t:=u o l n g b;simp[Instr.lookup,run_underlying Fc,MapKept.run_getObj_map i,Ca.check w _ d,f,Result.andThen,t]
 obtain⟨v,x,-,-,a,s⟩:=m e (List.mem_of_getElem? b);rw[f3] at a;obtain⟨rfl,rfl⟩:=S0 a;simp[Instr.lookup,run_underlying Fc,MapKept.run_getObj_map i,Ca.check w _ d,f,Result.andThen,s]
def sl(q:Int->Int->Int)(o l:Nat)(v:Int)(a b:Int):Int:=if a=o/\b=l then v else q a b
structure rt(r:Nat)(w w':World):Prop where
 os:w'.os=w.os
 tape:w'.tape=w.tape
 output:w'.output=w.output
 size:w'.heap.size=w.heap.size
 block:∀k,k≠r->w'.heap[k]?=w.heap[k]?
theorem An{x:Obj}(o:Obj)(h:w.heap[n]?=some x):rt n w (setBlock w n o):=⟨rfl,rfl,rfl,by simp[setBlock],(heap_set h).2⟩
theorem rt.trans{b c:World}(h:rt n a b)(k:rt n b c):rt n a c:=⟨k.os.trans h.os,k.tape.trans h.tape,k.output.trans h.output,k.size.trans h.size,λq d=>(k.block q d).trans (h.block q d)⟩
theorem rt.below{b c:World}(k:rt n b c)(h:Below A a b)(e:A<=n):Below A a c:=⟨k.os.trans h.os,k.tape.trans h.tape,k.output.trans h.output,by rw[k.size];exact h.size,λq d=>(k.block q (by omega)).trans (h.block q d)⟩
theorem Zm{q:Int->Int->Int}(h:la w R q)(F:o<4)(G:l<3):
  ∃(v0:Value) (st:Nat) (K:World),(Instr.mapEntry 137 (.map (some R)) (ou o l)).run prog w = .ok (.tuple #[v0,goInt st]) K/\rt R w K/\la K R q /\
   ∀v:Int,∃w2,(Instr.entryStore 137 (.map (some R)) (goInt st) (.int .i64 v)).run prog K = .ok () w2/\la w2 R (sl q o l v)/\rt R w w2:=by
 obtain⟨d,c,m,h2,B,J⟩:=h;obtain⟨k,M⟩:=Pa F G;obtain⟨s1,D,u⟩:=h2;have ah:=(Qkq m).1;rcases Ca.find w M d.toList (la.keys B) with⟨X,g⟩|⟨j,e,X,g,f3⟩
 .refine⟨.int .i64 0,c,setBlock w R (.map (d.push ⟨ou o l,.int .i64 0,c⟩) (c+1)),?_,An _ m,⟨_,_,(heap_set m).1,stamped_push ⟨s1,D,u⟩ g,λx hx => ?_,λa b s t y=>J a b s t λx hx=>y x (by rw[Array.toList_push];simp[hx])⟩,λv => ?_⟩
  .simp[Instr.mapEntry,run_underlying Fc,MapKept.run_getObj_map m,Ca.check w false M,X,MapKept.run_setObj_map _ m,Result.andThen,setBlock]
  .rw[Array.toList_push,List.mem_append,List.mem_singleton] at hx;rcases hx with hx|rfl
   .exact B x hx
   exact⟨o,l,F,G,rfl,by rw[J o l F G g]⟩
  have f:(setBlock w R (.map (d.push ⟨ou o l,.int .i64 0,c⟩) (c+1))).heap[R]?=some (.map (d.push ⟨ou o l,.int .i64 0,c⟩) (c+1)):=(heap_set m).1;have Y:Stamped (d.push ⟨ou o l,.int .i64 0,c⟩) (c+1):=stamped_push ⟨s1,D,u⟩ g;have z:(d.push ⟨ou o l,.int .i64 0,c⟩).findIdx? (λe=>((e.born:Nat):Int)==((c:Nat):Int))=some d.size:=by
   rw[WideElems.findIdx_arr];exact WideElems.findIdx_born (l:=(d.push ⟨ou o l,.int .i64 0,c⟩).toList) (j:=d.size) (e0:=⟨ou o l,.int .i64 0,c⟩) Y.2.1 (by simp)
  have W:(d.push ⟨ou o l,.int .i64 0,c⟩).modify d.size (λe=>{ e with val := .int .i64 v })=d.push ⟨ou o l,.int .i64 v,c⟩:=by
   apply Array.ext'
   rw[Array.toList_modify,Array.toList_push,Array.toList_push,<-Array.length_toList,WideElems.modify_last]
  refine⟨setBlock (setBlock w R (.map (d.push ⟨ou o l,.int .i64 0,c⟩) (c+1))) R (.map (d.push ⟨ou o l,.int .i64 v,c⟩) (c+1)),?_,⟨_,_,(heap_set f).1,stamped_push ⟨s1,D,u⟩ g,λx hx => ?_,λa b s t y => ?_⟩,(An _ m).trans (An _ f)⟩
  .generalize setBlock w R (.map (d.push ⟨ou o l,.int .i64 0,c⟩) (c+1))=W1 at f ⊢
   simp[Instr.entryStore,MapKept.run_getObj_map f,asInt,asIntOf,goInt,z,W,MapKept.run_setObj_map _ f,Result.andThen,setBlock]
  .rw[Array.toList_push,List.mem_append,List.mem_singleton] at hx;rcases hx with hx|rfl
   .obtain⟨a,b,s,t,H,V⟩:=B x hx;refine⟨a,b,s,t,H,?_⟩;have:¬((a:Int)=o/\(b:Int)=l):=λe=>g x hx (by rw[H,show a=o by omega,show b=l by omega]);rw[V];unfold sl;rw[if_neg this]
   refine⟨o,l,F,G,rfl,?_⟩;unfold sl;rw[if_pos ⟨rfl,rfl⟩]
  have p:¬((a:Int)=o/\(b:Int)=l):=λe=>y ⟨ou o l,.int .i64 v,c⟩ (by rw[Array.toList_push];simp) (by show ou o l=ou a b;rw[show a=o by omega,show b=l by omega]);unfold sl;rw[if_neg p];exact J a b s t λx hx=>y x (by rw[Array.toList_push];simp[hx])
 have hj:d[j]?=some e:=by simpa using g
 have L:d.modify j (λe=>{ e with key:=ou o l })=d:=by
  apply Array.ext'
  rw[Array.toList_modify,ChangeMaps.modify_eq_set _ _ _ _ g];have:({ e with key:=ou o l }:MapEntry)=e:=by rw[<-f3]
  rw[this];exact WideElems.set_self _ _ _ g
 have f:(setBlock w R (.map d c)).heap[R]?=some (.map d c):=(heap_set m).1;refine⟨e.val,e.born,setBlock w R (.map d c),?_,An _ m,⟨d,c,f,⟨s1,D,u⟩,B,J⟩,λv => ?_⟩
 .simp[Instr.mapEntry,run_underlying Fc,MapKept.run_getObj_map m,Ca.check w false M,X,hj,f3,Ca.stays w M,L,MapKept.run_setObj_map _ m,Result.andThen,setBlock]
 have z:d.findIdx? (λx=>((x.born:Nat):Int)==((e.born:Nat):Int))=some j:=by
  rw[WideElems.findIdx_arr];exact WideElems.findIdx_born D g
 have T:(d.modify j (λe=>{ e with val := .int .i64 v })).toList=d.toList.set j { e with val := .int .i64 v }:=by
  rw[Array.toList_modify,ChangeMaps.modify_eq_set _ _ _ _ g]
 have ac:∀x,x∈(d.modify j (λe=>{ e with val := .int .i64 v })).toList->x={ e with val := .int .i64 v }\/x∈d.toList/\x.key≠ou o l:=λx hx=>by
  rw[T] at hx;obtain⟨i,hi,hx⟩:=List.mem_iff_getElem.1 hx;rw[List.getElem_set] at hx;by_cases n:j=i
  .rw[if_pos n] at hx;exact Or.inl hx.symm
  rw[if_neg n] at hx;have E:i<d.toList.length:=by rw[List.length_set] at hi;exact hi
  have Q:j<d.toList.length:=(List.getElem?_eq_some_iff.1 g).1;refine Or.inr ⟨by rw[<-hx];exact List.getElem_mem E,λA => ?_⟩;have ej:d.toList[j]=e:=(List.getElem?_eq_some_iff.1 g).2;rcases Nat.lt_or_gt_of_ne n with U|U
  .exact(List.pairwise_iff_getElem.1 (List.pairwise_map.1 u)) j i Q E U (by rw[ej,f3,hx,A])
  exact(List.pairwise_iff_getElem.1 (List.pairwise_map.1 u)) i j E Q U (by rw[ej,f3,hx,A])
 obtain⟨o',l',-,-,H,ai⟩:=B e (List.mem_of_getElem? g);have aa:({ e with val := .int .i64 v }:MapEntry)∈(d.modify j (λe=>{ e with val := .int .i64 v })).toList:=by
  rw[T];exact List.mem_iff_getElem.2 ⟨j,by rw[List.length_set];exact(List.getElem?_eq_some_iff.1 g).1,by simp⟩
 refine⟨setBlock (setBlock w R (.map d c)) R (.map (d.modify j (λe=>{ e with val := .int .i64 v })) c),?_,⟨_,_,(heap_set f).1,stamped_modify ⟨s1,D,u⟩ j _ (λ_ _=>rfl) (λ_ _ _=>rfl),λx hx => ?_,λa b s t y => ?_⟩,(An _ m).trans (An _ f)⟩
 .generalize setBlock w R (.map d c)=W1 at f ⊢
  simp[Instr.entryStore,MapKept.run_getObj_map f,asInt,asIntOf,goInt,z,MapKept.run_setObj_map _ f,Result.andThen,setBlock]
 .rcases ac x hx with rfl|⟨hx,p⟩
  .refine⟨o,l,F,G,f3,?_⟩;unfold sl;rw[if_pos ⟨rfl,rfl⟩]
  obtain⟨a,b,s,t,P,V⟩:=B x hx;refine⟨a,b,s,t,P,?_⟩;have:¬((a:Int)=o/\(b:Int)=l):=λe=>p (by rw[P,show a=o by omega,show b=l by omega]);rw[V];unfold sl;rw[if_neg this]
 have p:¬((a:Int)=o/\(b:Int)=l):=λe'=>y _ aa (by show e.key=_;rw[f3,show a=o by omega,show b=l by omega]);unfold sl;rw[if_neg p];refine J a b s t λx hx A => ?_;obtain⟨i,hi,S⟩:=List.mem_iff_getElem.1 hx;by_cases n:j=i
 .subst n;have:x=e:=by rw[<-S];exact(List.getElem?_eq_some_iff.1 g).2
  rw[this,f3] at A;obtain⟨rfl,rfl⟩:=S0 A;exact p ⟨rfl,rfl⟩
 exact y x (by
  rw[T];exact List.mem_iff_getElem.2 ⟨i,by rw[List.length_set];exact hi,by rw[List.getElem_set_ne n];exact S⟩) A
end Go.Proofs.YtbcacebifpagpagGreat
namespace Go.Proofs.YtbcacebifpagpagGreat
variable{n b A g o l c i q j R L M:Nat}{w a d:World}{s x y u:St}{r W J D:Int}{e H:TypeId}{p:Pl}{z O:Nat->Hd}{f f':Nat->Value}{Q:Exit->Act->World->Prop}{v c1 c3 c2:Value}{xs:List Value}{U V:Hs}{X Y:Int->Int->Int}{P:Program}{h Z:Hd}{t:List UInt8}{E:Hd->Bool}{z' zs:Nat->Int}{S:World->Prop}{a1:Act}{K:Act->World->Prop}
open _root_.Go.Proofs.Tryz
open Go.RowKit Go.Shelf Go.Sort
def o9(g:Nat)(w w':World):Prop:=ir g w w'/\∀(cur:Array Value) (e:TypeId),w.heap[g]?=some (.cells cur e (0,0))->∃cur',w'.heap[g]?=some (.cells cur' e (0,0))/\cur'.size=cur.size
theorem o9.refl(g:Nat)(w:World):o9 g w w:=⟨ir.refl g w,λcur e h=>⟨cur,h,rfl⟩⟩
theorem o9.below{c:World}(h:o9 g w a)(b:Below a.heap.size a c):o9 g w c:=⟨h.1.below b,λcur e hc=>by
 obtain⟨f,d,i⟩:=h.2 cur e hc;exact⟨f,(b.block g (Qkq d).1).trans d,i⟩⟩
theorem o9.cells(b:List Value)(o:Nat)(a:World)(h:o9 g w a):o9 g w (a.setCells g o b):=⟨ir.cells b o a h.1,λcur e hc=>by
 obtain⟨c,j,f⟩:=h.2 cur e hc;obtain⟨c2,i,d⟩:=G7 (m:=cur.size) b o a ⟨c,j,f⟩;exact⟨c2,i,d⟩⟩
theorem o9.set(h:o9 g w a)(j:Nat)(u:Value):o9 g w (a.setCell ⟨g,j,none⟩ u):=o9.cells [u] j a h
theorem o9.set4(h:o9 g w a)(i:Nat)(x:Hd):o9 g w (Go.Proofs.YtbcacebifpagpagGreat.set4 a g i x):=by
 unfold Go.Proofs.YtbcacebifpagpagGreat.set4;exact(((h.set _ _).set _ _).set _ _).set _ _
theorem ab5(f:Nat)(caps:Array Value)(bad:Hd->Bool)(A:Nat)(a:Option Addr)(n c:Nat)(w:World)(J:A<=w.heap.size)(M:n<=c)(hc:c<=maxLen)(z:Nat->Hd)(y:jj w a n z)
  (L:∀args w,(callFunc f args).run prog w = .ok (.enter f args) w)
  (K:Hid (∀(x:Hd) d,Below A w d->Calls prog f (#[x.val]++caps) d λe s=>e = .returned (.bool (bad x))/\Below d.heap.size d s)) :
  Calls prog 134 #[.slice a n c,.func (.func f) #[] caps] w λe s=>((e = .returned (.int .i64 (-1))/\∀j,j<n->bad (z j)=false)\/∃k,k<n/\e = .returned (.int .i64 (k:Nat))/\bad (z k)=true/\∀j,j<k->bad (z j)=false)/\Below w.heap.size w s:=by
 unfold maxLen at hc;go_enter func134,ntmps134;go_wp2_with fail
 go_loopw [8] (λi d=>∃k:Nat,k<=n/\i = .int .i64 k/\Hid (∀j,j<k->bad (z j)=false)/\Below w.heap.size w d) (λi _=>n-(intOf i).toNat)
 case atStart=>exact⟨0,Qxz _,rfl,λj m=>absurd m (Qzq _),Below.refl _ _⟩
 obtain⟨k,P,rfl,p,l⟩:=hrel;by_cases q:k<n;rotate_left
 .go_wp2_with fail;go_ret;have t:k=n:=by omega
  subst t;exact⟨Or.inl ⟨rfl,p.out⟩,l⟩
 obtain⟨b,o,rfl,_,F,G,u,B⟩:=(y.below l) k q;clear y;have H:Hid (∀j,j<k+1->bad (z k)=false->bad (z j)=false):=λj m h=>by
  by_cases E:j=k
  .rw[E];exact h
  exact p.out j (by omega)
 go_wp2_with fail;refine(K.out (z k) wr (l.mono J)).mono ?_;rintro e d ⟨rfl,v⟩;have r:=l.trans (v.mono l.size);cases g:bad (z k)
 .have D:Hid (∀j,j<k+1->bad (z j)=false):=λj m=>H.out j m g;clear H p;go_wp2_with fail;go_roundw
  case rel=>exact⟨k+1,by omega,by go_num,D,r⟩
  case measure=>simp[intOf];omega
 go_wp2_with fail;go_ret;exact⟨Or.inr ⟨k,q,rfl,g,p.out⟩,r⟩
def Kb(g:Nat)(bad:Hd->Bool)(xs:List Hd)(k:Nat)(wk:World):Prop:=∃c:Nat->Hd,Blk wk g 63 (xs.length*4) (hc c)/\(∀q,q<(i9 bad xs k).length->c q=(i9 bad xs k).getD q hd0)/\∀q,k<=q->q<xs.length->c q=xs.getD q hd0
theorem X4(f:Nat)(caps:Array Value)(bad:Hd->Bool)(A g cap:Nat)(xs:List Hd)(w:World)(hA:A<=g)(J:A<=w.heap.size)(hn:xs.length<=cap)(ab:cap<=maxLen)(hb:Blk w g 63 (xs.length*4) (hc λj=>xs.getD j hd0))
  (eg:∀args w,(callFunc f args).run prog w = .ok (.enter f args) w)
  (hf:Hid (∀(x:Hd) L,Below A w L->Calls prog f (#[x.val]++caps) L λe U=>e = .returned (.bool (bad x))/\Below L.heap.size L U)) :
  Calls prog 151 #[.slice (some ⟨g,0,none⟩) xs.length cap,.func (.func f) #[] caps] w λe U=>e = .returned (.slice (some ⟨g,0,none⟩) (xs.filter (λx => !bad x)).length cap)/\Blk U g 63 ((xs.filter (λx => !bad x)).length*4) (hc λj=>(xs.filter (λx => !bad x)).getD j hd0)/\Below A w U/\o9 g w U:=by
 have ah:=ab;unfold maxLen at ab;have ac:=hid hb;have hz:jj w (some ⟨g,0,none⟩) xs.length (λj=>xs.getD j hd0):=hb.hds;clear hb;go_enter func151,ntmps151;go_wp2_with fail;refine(ab5 f caps bad A _ _ _ w J hn ah _ hz eg hf).mono ?_;rintro e L ⟨h,t⟩;clear hz;have af:=t.mono J;rcases h with⟨rfl,D⟩|⟨P,a7,rfl,ad,D⟩
 .have ae:xs.filter (λx => !bad x)=xs:=by
   have:=Bi (bad:=bad) (Nat.le_refl xs.length) D;rw[Fh,List.take_length] at this;exact this
  have HF:=hid ae;clear ae D;go_wp2_with fail;go_ret;rw[HF.out];exact⟨rfl,ac.out.below t,af,(o9.refl g w).below t⟩
 have Q:i9 bad xs (P+1)=xs.take P:=by rw[Bj a7,Bi (by omega) D,ad];simp
 have ag:(i9 bad xs (P+1)).length=P:=by rw[Q,List.length_take];omega
 have H0:Hid (Kb g bad xs (P+1) L):=⟨_,ac.out.below t,λq K=>by
  rw[ag] at K;rw[Q];simp only[List.getD,List.getElem?_take,if_pos K],λq _ _=>rfl⟩
 have V:=hid ag;clear Q ag ad D ac;go_wp2_with fail
 go_loopw [5,6] (λi j wk=>∃k:Nat,k<=xs.length/\j = .int .i64 k/\i = .int .i64 ((i9 bad xs k).length:Nat)/\(i9 bad xs k).length<k/\Hid (Kb g bad xs k wk)/\Below A w wk/\Hid (o9 g w wk)) (λ_ j _=>xs.length-(intOf j).toNat)
 case atStart=>exact⟨P+1,by omega,by go_num,by rw[V.out],by rw[V.out];omega,H0,af,(o9.refl g w).below t⟩
 clear H0 V af t;obtain⟨k,hk,rfl,rfl,v,HD,hB,m⟩:=hrel;by_cases Y:k<xs.length;rotate_left
 .have az:k=xs.length:=by omega
  subst az;obtain⟨c,a,p,E⟩:=HD.out;rw[Fh] at v p ⊢;obtain⟨I,F⟩:∃I,(xs.filter (λx => !bad x)).length=I:=⟨_,rfl⟩;have HI:=hid F;rw[F] at v p ⊢;clear F;obtain⟨N,hN⟩:∃N,xs.length=N:=⟨_,rfl⟩;rw[hN] at v hn a ⊢;clear hN E Y hk HD;have bn:¬cap=I:=by omega
  have bm:∀ty,(Builtin.clear_ #[29] ty #[.slice (some ⟨g,I*4,none⟩) (N-I) (cap-I)]).run prog wr = .ok (.tuple #[]) (wr.setCells g (I*4) (List.replicate ((N-I)*4) (.int .i64 0))):=λty =>
   Lo wr ty g (I*4) (N-I) (cap-I) (by omega) (λj hj=>by rw[a.cell (by omega)];rfl) (λj _=>a.frozen _)
  have ap:Hid (Blk (wr.setCells g (I*4) (List.replicate ((N-I)*4) (.int .i64 0))) g 63 (I*4) (hc λj=>(xs.filter (λx => !bad x)).getD j hd0)/\Below A w (wr.setCells g (I*4) (List.replicate ((N-I)*4) (.int .i64 0)))/\o9 g w (wr.setCells g (I*4) (List.replicate ((N-I)*4) (.int .i64 0)))):=
   ⟨Blk.setCells _ _ _ ((a.less (by omega)).congr λj hj=>by unfold hc;rw[p (j/4) (by omega)]) nlr,zr hA _ _ _ hB,m.out.cells _ _ _⟩
  clear a p;go_wp2_with fail;go_ret;rw[HI.out];exact⟨rfl,ap.out⟩
 obtain⟨c,a,p,E⟩:=HD.out;have r:=qa3 a p E;have HS:Hid (i9 bad xs (k+1)=i9 bad xs k++if bad (xs.getD k hd0) then [] else [xs.getD k hd0]):=Bj Y;obtain⟨X,hX⟩:∃X,xs.getD k hd0=X:=⟨_,rfl⟩;have am:=hid hX;have an:c k=X:=by rw[E k nlr Y,hX]
 have M:=Rf c k;rw[an] at M;have z0:wr.cell? ⟨g,k*4,none⟩=some (.int .i64 X.o):=(a.cell (by omega)).trans (by rw[M.1]);have z1:wr.cell? ⟨g,k*4+1,none⟩=some (.int .i64 X.l):=(a.cell (by omega)).trans (by rw[M.2.1]);have z2:wr.cell? ⟨g,k*4+2,none⟩=some (.int .i64 X.b):=(a.cell (by omega)).trans (by rw[M.2.2.1]);have z3:wr.cell? ⟨g,k*4+3,none⟩=some (.int .i64 X.n):=(a.cell (by omega)).trans (by rw[M.2.2.2]);have zl:=a.lt;clear a p E HD hX an M;obtain⟨I,F⟩:∃I,(i9 bad xs k).length=I:=⟨_,rfl⟩;have u:=hid F;rw[F] at v ⊢;clear F;obtain⟨W,hW,G,KX⟩:∃W,wr.alloc (.cells #[.int .i64 X.o,.int .i64 X.l,.int .i64 X.b,.int .i64 X.n] 63)=W/\Below wr.heap.size wr W/\Blk W wr.heap.size 63 4 (λj=>(#[.int .i64 X.o,.int .i64 X.l,.int .i64 X.b,.int .i64 X.n]:Array Value).getD j default):=⟨_,rfl,brf.alloc nlr _,Blk.mk' rfl rfl⟩;have HW:Hid (wr.alloc (.cells #[.int .i64 X.o,.int .i64 X.l,.int .i64 X.b,.int .i64 X.n] 63)=W):=hW;have H:=hB.trans (G.mono (Qzx J hB.size));have r:Hid (Blk W g 63 (xs.length*4) (hc c)/\(∀q,q<(i9 bad xs k).length->c q=(i9 bad xs k).getD q hd0)/\∀q,k<=q->q<xs.length->c q=xs.getD q hd0):=⟨r.out.1.below G,r.out.2⟩;have m:Hid (o9 g w W):=m.out.below G;clear hW G;go_wp2_with fail;rw[HW.out];refine(hf.out X W H).mono ?_;rintro e y ⟨rfl,B⟩;have al:=H.trans (B.mono (Qzx J H.size));have m:Hid (o9 g w y):=m.out.below B;have d:=r.out.1.below B;have s:=KX.below B;have xl:=s.lt;have x0:y.cell? ⟨wr.heap.size,0,none⟩=some (.int .i64 X.o):=s.k 0;have x1:y.cell? ⟨wr.heap.size,1,none⟩=some (.int .i64 X.l):=s.k 1;have x2:y.cell? ⟨wr.heap.size,2,none⟩=some (.int .i64 X.b):=s.k 2;have x3:y.cell? ⟨wr.heap.size,3,none⟩=some (.int .i64 X.n):=s.k 3;clear z0 z1 z2 z3 zl KX s HW hB H B
 generalize wr.heap.size=BX at *
 cases ao:bad X;rotate_left
 .have z:Hid (Kb g bad xs (k+1) y/\(i9 bad xs (k+1)).length=I):=by
   have T:i9 bad xs (k+1)=i9 bad xs k:=by rw[HS.out,am.out,ao];simp
   rw[T];exact⟨⟨c,d,by rw[T];exact r.out.2.1,λq K S=>r.out.2.2 q (by omega) S⟩,u.out⟩
  clear d r HS;go_wp2_with fail;go_roundw
  case rel=>exact⟨_,_,_,_,_,_,_,_,_,_,_,_,_,_,_,_,_,_,_,_,_,_,_,⟨k+1,by omega,by go_num,by rw[z.out.2],by rw[z.out.2];omega,z.out.1,al,m⟩,rfl⟩
  case measure=>simp[intOf];omega
 have y0:=d.cell (j:=I*4) (by omega);have y1:=d.cell (j:=I*4+1) (by omega);have y2:=d.cell (j:=I*4+2) (by omega);have y3:=d.cell (j:=I*4+3) (by omega);have f0:=d.frozen (I*4);have f1:=d.frozen (I*4+1);have f2:=d.frozen (I*4+2);have f3:=d.frozen (I*4+3);have yl:=d.lt
 generalize hc c (I*4)=V0 at y0
 generalize hc c (I*4+1)=V1 at y1
 generalize hc c (I*4+2)=V2 at y2
 generalize hc c (I*4+3)=V3 at y3
 have KB:=d.set4 I X;have z:Hid (Kb g bad xs (k+1) (set4 y g I X)/\Below A w (set4 y g I X)/\(i9 bad xs (k+1)).length=I+1/\o9 g w (set4 y g I X)):=by
  have T:i9 bad xs (k+1)=i9 bad xs k++[X]:=by rw[HS.out,am.out,ao];rfl
  have e2:(i9 bad xs (k+1)).length=I+1:=by rw[T,List.length_append,u.out];rfl
  refine⟨⟨_,KB,λq K => ?_,λq K S => ?_⟩,M8 hA al I X,e2,m.out.set4 I X⟩
  .rw[e2] at K;show(if q=I then X else c q)=_;rw[T];by_cases aa:q=I
   .rw[if_pos aa];simp only[List.getD];rw[List.getElem?_append_right (by rw[u.out];omega),u.out,aa];simp
   rw[if_neg aa,r.out.2.1 q (by rw[u.out];omega)];simp only[List.getD];rw[List.getElem?_append_left (by rw[u.out];omega)]
  show(if q=I then X else c q)=_;rw[if_neg (by omega),r.out.2.2 q (by omega) S]
 clear d KB r HS;go_wp2_with fail;go_roundw
 case rel=>exact⟨_,_,_,_,_,_,_,_,_,_,_,_,_,_,_,_,_,_,_,_,_,_,_,⟨k+1,by omega,by go_num,by rw[z.out.2.2.1];go_num,by rw[z.out.2.2.1];omega,z.out.1,z.out.2.1,z.out.2.2.2⟩,rfl⟩
 case measure=>simp[intOf];omega
theorem X5(f:Nat)(caps:Array Value)(bad:Hd->Bool)(a:Option Addr)(cap:Nat)(w:World)(c:cap<=maxLen)
  (l:∀args w,(callFunc f args).run prog w = .ok (.enter f args) w)
  (m:Hid (∀(x:Hd) b,Below w.heap.size w b->Calls prog f (#[x.val]++caps) b λe g=>e = .returned (.bool (bad x))/\Below b.heap.size b g)) :
  Calls prog 151 #[.slice a (0:Nat) cap,.func (.func f) #[] caps] w λe g=>e = .returned (.slice a (0:Nat) cap)/\Below w.heap.size w g:=by
 have d:=c;unfold maxLen at c;go_enter func151,ntmps151;go_wp2_with fail;refine(ab5 f caps bad w.heap.size a 0 cap w nlr (Qxz _) d (λ_=>hd0) (λi hi=>absurd hi (Qzq _)) l m).mono ?_;rintro e b ⟨h,j⟩;rcases h with⟨rfl,-⟩|⟨n,k,-⟩
 .go_wp2_with fail;go_ret;exact⟨rfl,j⟩
 exact absurd k (Qzq _)
theorem Qe{b:World}(a:Below w.heap.size w b):KeepsOthers w b:=⟨a.size,λk o c _=>(a.block k (Qkq c).1).trans c⟩
theorem Qf{b:World}{t:TypeId}(h:Blk w g t n f)(c:ir g w b):KeepsOthers w b:=⟨c.1,λk o a d=>(c.2 k (Qkq a).1 λe=>by
 obtain⟨cur,i,_⟩:=h;rw[e,i] at a;cases a;cases d).trans a⟩
theorem X6(f:Nat)(caps:Array Value)(bad:Hd->Bool)(A:Nat)(s:St)(w:World)(l:A<=w.heap.size)(B:ai A w s)
  (F:∀args w,(callFunc f args).run prog w = .ok (.enter f args) w)
  (L:∀(x:Hd) b,Below A w b->Calls prog f (#[x.val]++caps) b λe k=>e = .returned (.bool (bad x))/\Below b.heap.size b k) :
  Calls prog 97 #[.slice s.hs.a s.hs.n s.hs.c,.func (.func f) #[] caps] w λe k=>e = .returned (.slice (dz s.hs bad).a (dz s.hs bad).n (dz s.hs bad).c)/\ai A k (withHolds s (dz s.hs bad))/\Below A w k/\(∀q t m g,t≠61->Blk w q t m g->Blk k q t m g)/\KeepsOthers w k:=by
 obtain⟨E,o,G,Q⟩:=B.hs;by_cases M:s.hs.n=0
 .have hd:(dz s.hs bad).n=0:=by have:=Ad s.hs bad;omega
  rw[M,hd];refine(Rk f caps bad s.hs.a s.hs.c w o F (λx b d=>L x b (d.mono l))).mono ?_;rintro e b ⟨rfl,d⟩;exact⟨rfl,(B.below d).withHolds ⟨by rw[hd];exact Qxz _,o,G,λh=>absurd h (by omega)⟩,d.mono l,λq t m g _ v=>v.below d,Qe d⟩
 obtain⟨g,r,K,v⟩:=Q (by omega);have i:Blk w g 61 ((iw s.hs).length*4) (hc λj=>(iw s.hs).getD j hd0):=by
  rw[nx];refine v.congr λq u => ?_;rw[ws u];unfold hc;dsimp only;rw[Ma (by omega)]
 have J:=Rj f caps bad A g s.hs.c (iw s.hs) w K l (by rw[nx];exact E) o i F L;rw[nx] at J;rw[r];refine J.mono ?_;rintro e b ⟨rfl,D,d,y⟩;have P:=Ad s.hs bad;exact⟨by show _=Ending.returned (.slice s.hs.a _ _);rw[r];rfl,B.keepG i y ⟨Qzx P E,o,G,λ_=>⟨g,r,K,D.congr λq u=>(ws (z:=(dz s.hs bad).z) u).symm⟩⟩,d,λq t m f' H p=>y.blk p (Blk.ne2 p i H),Qf i y⟩
theorem fu.keepMv{k:World}{a:Option Addr}(h:fu A w 63 4 a c)(K:o9 g w k):fu A k 63 4 a c:=by
 rcases h with m|⟨q,cur,i,j,b,d⟩
 .exact Or.inl m
 by_cases e:q=g
 .subst e;obtain⟨f,l,n⟩:=K.2 cur _ b;exact Or.inr ⟨q,f,i,j,l,by rw[n];exact d⟩
 exact Or.inr ⟨q,cur,i,j,(K.1.2 q (Qkq b).1 e).trans b,d⟩
theorem X7(f:Nat)(caps:Array Value)(bad:Hd->Bool)(A:Nat)(s:St)(w:World)(l:A<=w.heap.size)(p:ai A w s)
  (F:∀args w,(callFunc f args).run prog w = .ok (.enter f args) w)
  (L:∀(x:Hd) b,Below A w b->Calls prog f (#[x.val]++caps) b λe k=>e = .returned (.bool (bad x))/\Below b.heap.size b k) :
  Calls prog 151 #[.slice s.ms.a s.ms.n s.ms.c,.func (.func f) #[] caps] w λe k=>e = .returned (.slice (dz s.ms bad).a (dz s.ms bad).n (dz s.ms bad).c)/\ai A k (withMoves s (dz s.ms bad))/\Below A w k/\(∀q t m g,t≠63->Blk w q t m g->Blk k q t m g)/\KeepsOthers w k:=by
 obtain⟨E,r,G,Q⟩:=p.ms;by_cases M:s.ms.n=0
 .have hd:(dz s.ms bad).n=0:=by have:=Ad s.ms bad;omega
  rw[M,hd];refine(X5 f caps bad s.ms.a s.ms.c w r F (λx b d=>L x b (d.mono l))).mono ?_;rintro e b ⟨rfl,d⟩;have O:=p.below d;exact⟨rfl,⟨O.on,O.rows,O.rapart,O.os,O.hs,⟨by show(dz s.ms bad).n<=_;rw[hd];exact Qxz _,r,G,λh=>absurd (show 0<(dz s.ms bad).n from h) (by omega)⟩,O.msr,O.si,O.so,O.sf,O.aio,O.aif,O.aof,O.ari⟩,d.mono l,λq t m g _ B=>B.below d,Qe d⟩
 obtain⟨g,v,K,B⟩:=Q (by omega);have i:Blk w g 63 ((iw s.ms).length*4) (hc λj=>(iw s.ms).getD j hd0):=by
  rw[nx];refine B.congr λq y => ?_;rw[ws y];unfold hc;dsimp only;rw[Ma (by omega)]
 have J:=X4 f caps bad A g s.ms.c (iw s.ms) w K l (by rw[nx];exact E) r i F L;rw[nx] at J;rw[v];refine J.mono ?_;rintro e b ⟨rfl,D,d,o⟩;have P:=Ad s.ms bad;exact⟨by show _=Ending.returned (.slice s.ms.a _ _);rw[v];rfl,p.keepM i o.1 ⟨Qzx P E,r,G,λ_=>⟨g,v,K,D.congr λq y=>(ws (z:=(dz s.ms bad).z) y).symm⟩⟩ (p.msr.keepMv o),d,λq t m f' H u=>o.1.blk u (Blk.ne2 u i H),Qf i o.1⟩
def adc(x:St)(b g:Int)(r:Nat)(j:Nat):Value:=(#[.slice x.on.a x.on.n x.on.c,.slice x.os.a x.os.n x.os.c,.slice x.hs.a x.hs.n x.hs.c,.slice x.ms.a x.ms.n x.ms.c,.slice x.si.a x.si.n x.si.c,.slice x.so.a x.so.n x.so.c,.slice x.sf.a x.sf.n x.sf.c,.int .i64 b,.int .i64 g,.map (some r)]:Array Value).getD j default
theorem ai.boxC(h:ai A w s)(b:Blk w q 139 n f)(j:Nat)(u:Value):ai A (w.setCell ⟨q,j,none⟩ u) s:=by
 refine⟨?_,λi hi=>(h.rows i hi).other b (by decide) j u,h.rapart,h.os.other b (by decide) (by decide) j u,h.hs.other b (by decide) j u,h.ms.other b (by decide) j u,h.msr.set q j u,h.si.other b (by decide) j u,h.so.other b (by decide) j u,h.sf.other b (by decide) j u,h.aio,h.aif,h.aof,h.ari⟩;obtain⟨g,k,d,e,l,c⟩:=h.on;exact⟨g,k,d,e,l,c.other (a:=⟨q,j,none⟩) (Blk.ne2 c b (by decide)) u⟩
theorem la.keeps{q:Int->Int->Int}(h:la w n q)(k:KeepsOthers w a):la a n q:=by
 obtain⟨b,c,e,d⟩:=h;exact⟨b,c,k.same n _ e rfl,d⟩
theorem Blk.keepR{b:World}{t:TypeId}{q:Int->Int->Int}(h:Blk w g t n f)(m:la w A q)(k:rt A w b):Blk b g t n f:=by
 obtain⟨cur,a,i⟩:=h;refine Blk.same ⟨cur,a,i⟩ (k.block g λe => ?_);obtain⟨j,c,d,-⟩:=m;rw[e,d] at a;cases a
theorem rt.ck{q:Int->Int->Int}(m:la w n q)(k:rt n w a):jr w a:=⟨by rw[k.size];exact Nat.le_refl _,λg cur e z b=>k.block g λf=>by
 obtain⟨h,c,d,-⟩:=m;rw[f,d] at b;cases b⟩
structure gw(A BC r:Nat)(W0:World)(x:St)(b g:Int)(q:Int->Int->Int)(wk:World):Prop where
 own:ai A wk x
 box:Blk wk BC 139 10 (adc x b g r)
 map:la wk r q
 bel:Below W0.heap.size W0 wk
 le:A<=wk.heap.size
 w0:W0.heap.size<=A
 bc:A<=BC
 ra:A<=r
section
variable {A BC r:Nat} {W0 wk wj:World} {x:St} {b g:Int} {q:Int->Int->Int}
theorem gw.below(h:gw A BC r W0 x b g q wk)(a:Below wk.heap.size wk wj):gw A BC r W0 x b g q wj :=
 ⟨ai.below h.own a,h.box.below a,h.map.below a,h.bel.trans (a.mono h.bel.size),Qzx h.le a.size,h.w0,h.bc,h.ra⟩
theorem Blk.noMap{g:Nat}{t:TypeId}(h:Blk w g t n f){q:Int->Int->Int}(m:la w A q):A≠g:=λe=>by
 obtain⟨cur,b,i⟩:=h;obtain⟨d,c,a,-⟩:=m;rw[e,b] at a;cases a
def Cw(h:Hs)(i:Nat)(d:Int):Hs:=⟨h.a,h.n,h.c,ig h.z i d⟩
theorem Zg{h:Hs}{d:Int}(q:Nat)(a:q<h.n*4):(if q=i*4+3 then Value.int .i64 ((h.z i).n-d) else(ay h.n h.z).getD q default)=(ay h.n (ig h.z i d)).getD q default:=by
 rw[Ob (h:=h) (j:=i) (c:=3) (v:=(h.z i).n-d) (by decide) q a];have e:(Ab h i 3 ((h.z i).n-d)).z=ig h.z i d:=by
  funext k
  show(if k=i then H4 (h.z k) 3 ((h.z i).n-d) else h.z k)=if k=i then jc (h.z k) d else h.z k;by_cases c:k=i
  .rw[if_pos c,if_pos c,c];rfl
  rw[if_neg c,if_neg c]
 rw[e]
theorem cw.less{t:TypeId}{h:Hs}(k:cw A t w h){G:Nat}(hi:i<h.n)(c:h.a=some ⟨G,0,none⟩)(d:Int):cw A t (w.setCell ⟨G,i*4+3,none⟩ (.int .i64 ((h.z i).n-d))) (Cw h i d):=by
 obtain⟨g,o,l,m⟩:=k;refine⟨g,o,l,λr => ?_⟩;obtain⟨p,b,e,j⟩:=m (by omega);rw[c] at b;simp only[Qkx,Qkz,and_true] at b;subst b;exact⟨G,c,e,(j.set (i*4+3) _).congr λq f=>Zg q f⟩
theorem gw.moveN(h:gw A BC r W0 x b g q wk){G:Nat}(hi:i<x.ms.n)(f:x.ms.a=some ⟨G,0,none⟩)(d:Int):gw A BC r W0 (withMoves x (Cw x.ms i d)) b g q (wk.setCell ⟨G,i*4+3,none⟩ (.int .i64 ((x.ms.z i).n-d))):=by
 have j:=h.own.ms;obtain⟨t,s,m,k⟩:=h.own.ms;obtain⟨l,c,o,e⟩:=k (by omega);rw[f] at c;simp only[Qkx,Qkz,and_true] at c;subst c;refine⟨h.own.keepM e ((ir.refl G wk).set _ _) (j.less hi f d) (h.own.msr.set G (i*4+3) _),h.box.other (a:=⟨G,i*4+3,none⟩) (Blk.ne2 h.box e (by decide)) _,h.map.set (e.noMap h.map) _,h.bel.setCell (p:=⟨G,i*4+3,none⟩) (by show W0.heap.size<=G;have:=h.w0;omega) _,by have:=h.le;simpa using this,h.w0,h.bc,h.ra⟩
theorem gw.holdN(h:gw A BC r W0 x b g q wk){G:Nat}(hi:i<x.hs.n)(f:x.hs.a=some ⟨G,0,none⟩)(d:Int):gw A BC r W0 (withHolds x (Cw x.hs i d)) b g q (wk.setCell ⟨G,i*4+3,none⟩ (.int .i64 ((x.hs.z i).n-d))):=by
 have j:=h.own.hs;obtain⟨t,s,m,k⟩:=h.own.hs;obtain⟨l,c,o,e⟩:=k (by omega);rw[f] at c;simp only[Qkx,Qkz,and_true] at c;subst c;refine⟨h.own.keepG e ((ir.refl G wk).set _ _) (j.less hi f d),h.box.other (a:=⟨G,i*4+3,none⟩) (Blk.ne2 h.box e (by decide)) _,h.map.set (e.noMap h.map) _,h.bel.setCell (p:=⟨G,i*4+3,none⟩) (by show W0.heap.size<=G;have:=h.w0;omega) _,by have:=h.le;simpa using this,h.w0,h.bc,h.ra⟩
theorem gw.back(h:gw A BC r W0 x b g q wk){B:Nat}(f:o<x.os.n)(d:(x.os.z o).ls.a=some ⟨B,0,none⟩)(l:Nat)(v:Int):gw A BC r W0 (setLine x o l 3 v) b g q (wk.setCell ⟨B,l*4+3,none⟩ (.int .i64 v)):=by
 obtain⟨B',c,j,i,k,e⟩:=h.own.os.lines o f;rw[d] at c;simp only[Qkx,Qkz,and_true] at c;subst c;refine⟨h.own.setLine f d l 3 (by decide) v,h.box.other (a:=⟨B,l*4+3,none⟩) (Blk.ne2 h.box e (by decide)) _,h.map.set (e.noMap h.map) _,h.bel.setCell (p:=⟨B,l*4+3,none⟩) (by show W0.heap.size<=B;have:=h.w0;omega) _,by have:=h.le;simpa using this,h.w0,h.bc,h.ra⟩
theorem gw.store(h:gw A BC r W0 x b g q wk){a:Int->Int->Int}(m:la wj r a)(k:rt r wk wj):gw A BC r W0 x b g a wj :=
 ⟨h.own.ck (k.ck h.map),h.box.keepR h.map k,m,k.below h.bel (Qzx h.w0 h.ra),by rw[k.size];exact h.le,h.w0,h.bc,h.ra⟩
theorem gw.newMoves(h:gw A BC r W0 x b g q wk){m:Hs}(o:ai A wj (withMoves x m))(i:Below A wk wj)(l:∀q t n g,t≠63->Blk wk q t n g->Blk wj q t n g)(f:KeepsOthers wk wj):gw A BC r W0 (withMoves x m) b g q (wj.setCell ⟨BC,3,none⟩ (.slice m.a m.n m.c)):=by
 have d:=l _ _ _ _ (by decide) h.box;have e:=h.map.keeps f;have b1:=h.w0;have b2:=h.bc;refine⟨o.boxC d 3 _,(d.set 3 _).congr λj k => ?_,e.set (d.noMap e) _,(h.bel.trans (i.mono h.w0)).setCell (p:=⟨BC,3,none⟩) (by show W0.heap.size<=BC;omega) _,by have:=i.size;have:=h.le;simp;omega,h.w0,h.bc,h.ra⟩
 match j,k with
 | 0,_=>rfl
 | 1,_=>rfl
 | 2,_=>rfl
 | 3,_=>rfl
 | 4,_=>rfl
 | 5,_=>rfl
 | 6,_=>rfl
 | 7,_=>rfl
 | 8,_=>rfl
 | 9,_=>rfl
theorem gw.newHolds(h:gw A BC r W0 x b g q wk){m:Hs}(o:ai A wj (withHolds x m))(i:Below A wk wj)(l:∀q t n g,t≠61->Blk wk q t n g->Blk wj q t n g)(f:KeepsOthers wk wj):gw A BC r W0 (withHolds x m) b g q (wj.setCell ⟨BC,2,none⟩ (.slice m.a m.n m.c)):=by
 have d:=l _ _ _ _ (by decide) h.box;have e:=h.map.keeps f;have b1:=h.w0;have b2:=h.bc;refine⟨o.boxC d 2 _,(d.set 2 _).congr λj k => ?_,e.set (d.noMap e) _,(h.bel.trans (i.mono h.w0)).setCell (p:=⟨BC,2,none⟩) (by show W0.heap.size<=BC;omega) _,by have:=i.size;have:=h.le;simp;omega,h.w0,h.bc,h.ra⟩
 match j,k with
 | 0,_=>rfl
 | 1,_=>rfl
 | 2,_=>rfl
 | 3,_=>rfl
 | 4,_=>rfl
 | 5,_=>rfl
 | 6,_=>rfl
 | 7,_=>rfl
 | 8,_=>rfl
 | 9,_=>rfl
theorem gw.boxed(h:gw A BC r W0 x b g q wk):BC<wk.heap.size/\wk.cell? ⟨BC,0,none⟩=some (.slice x.on.a x.on.n x.on.c)/\wk.cell? ⟨BC,1,none⟩=some (.slice x.os.a x.os.n x.os.c)/\wk.cell? ⟨BC,2,none⟩=some (.slice x.hs.a x.hs.n x.hs.c)/\wk.cell? ⟨BC,3,none⟩=some (.slice x.ms.a x.ms.n x.ms.c)/\wk.cell? ⟨BC,4,none⟩=some (.slice x.si.a x.si.n x.si.c)/\wk.cell? ⟨BC,5,none⟩=some (.slice x.so.a x.so.n x.so.c)/\wk.cell? ⟨BC,6,none⟩=some (.slice x.sf.a x.sf.n x.sf.c)/\wk.cell? ⟨BC,7,none⟩=some (.int .i64 b)/\wk.cell? ⟨BC,8,none⟩=some (.int .i64 g)/\wk.cell? ⟨BC,9,none⟩=some (.map (some r)):=
 ⟨h.box.lt,h.box.k 0,h.box.k 1,h.box.k 2,h.box.k 3,h.box.k 4,h.box.k 5,h.box.k 6,h.box.k 7,h.box.k 8,h.box.k 9⟩
end
theorem Rb(x:Hd)(w:World):
  Calls prog 152 #[x.val] w λe a=>e = .returned (.bool (ts x))/\Below w.heap.size w a:=by
 unfold Hd.val ts;go_enter func152,ntmps152;go_wp2_with fail;go_ret;exact⟨rfl,brf.alloc nlr _⟩
structure Bm(x:St)(b g:Nat)(n:Int)(i:Nat)(m:Int)(z:Nat->Hd):Prop where
 rest:l7 (ct b g) i (max 0 m) z=l7 (ct b g) x.ms.n (max 0 n) x.ms.z
 left:uu (ct b g) (max 0 m) (cy z i)=uu (ct b g) (max 0 n) (qh x)
 pos:∀j,j<x.ms.n->0<=(z j).n/\(z j).n<=200
 le:m<=max 0 n/\(m=n\/0<=m)
theorem Bm.miss{b g:Nat}{n m:Int}(h:Bm x b g n (i+1) m z)(a:¬((z i).l=b/\(z i).o=g)):Bm x b g n i m z:=by
 have c:¬ct b g (z i)=true:=λe=>a (Al.1 e);refine⟨?_,?_,h.pos,h.le⟩
 .rw[<-h.rest];exact(if_neg c).symm
 rw[<-h.left];exact(if_neg c).symm
theorem Bm.hit{b g:Nat}{n m:Int}(h:Bm x b g n (i+1) m z)(hi:i<x.ms.n)(r:0<m)(f:(z i).l=b)(k:(z i).o=g):Bm x b g n i (m-min m (z i).n) (ig z i (min m (z i).n)):=by
 have c:ct b g (z i)=true:=Al.2 ⟨f,k⟩;have p:=h.pos i hi;have e0:max 0 m=m:=by omega
 have d:max 0 (m-min m (z i).n)=m-min m (z i).n:=by omega
 refine⟨?_,?_,λj a => ?_,?_⟩
 .rw[<-h.rest,e0,d];exact(if_pos c).symm
 .rw[<-h.left,e0,d,pk (z:=ig z i (min m (z i).n)) (z':=z) λj a=>if_neg (by omega)];exact(if_pos c).symm
 .unfold ig;have q:=h.pos j a;by_cases e:j=i
  .rw[if_pos e,e];show 0<=(z i).n-min m (z i).n/\(z i).n-min m (z i).n<=200;omega
  rw[if_neg e];exact q
 have:=h.le;omega
theorem Bm.done{b g:Nat}{n m:Int}(h:Bm x b g n i m z)(hi:i<=x.ms.n)(hd:i=0\/m<=0):z=l7 (ct b g) x.ms.n (max 0 n) x.ms.z/\max 0 m=uu (ct b g) (max 0 n) (qh x):=by
 rcases hd with rfl|hd
 .exact⟨h.rest,h.left⟩
 have e:max 0 m=0:=by omega
 have r:=h.rest;have l:=h.left;rw[e] at r l;rw[Jc _ _ _ λj c=>(h.pos j (by omega)).1] at r;have l0:uu (ct b g) 0 (cy z i)=0:=by
  have k:=(ur (ss b g) (R:=cy z i) (m:=0) (λy a=>by obtain⟨j,c,e⟩:=ye a;rw[<-e];exact(h.pos j (by omega)).1) (Int.le_refl _)).2;have d:=Cg (P:=ct b g) (R:=cy z i) (λy a=>by obtain⟨j,c,e⟩:=ye a;rw[<-e];exact(h.pos j (by omega)).1);omega
 rw[e,<-l,l0];exact⟨r,rfl⟩
theorem Sb(A B r:Nat)(L:World)(x:St)(b g:Nat)(q:Int->Int->Int)(n:Int)(w:World)(h:gw A B r L x b g q w)(hm:∀j,j<x.ms.n->0<=(x.ms.z j).n/\(x.ms.z j).n<=200)(hl:x.ms.n<=8)(hn : -100000<=n/\n<=100000):
  Calls prog 107 #[.pointer (some ⟨B,0,none⟩),.int .i64 n] w λe w'=>∃v:Int,e = .returned (.int .i64 v)/\max 0 v=uu (ct b g) (max 0 n) (qh x)/\(-100000<=v/\v<=100000)/\gw A B r L (withMoves x (cq (ct b g) x.ms (max 0 n))) b g q w':=by
 have f:=hid h;have D:Hid (Bm x b g n x.ms.n n x.ms.z):=⟨rfl,rfl,hm,by omega,Or.inl rfl⟩;obtain⟨u,-,-,-,V,-,-,-,-,-,-⟩:=h.boxed;have mc:=h.own.ms.2.1;have ml:=h.own.ms.1;unfold maxLen at mc;clear h hm;go_enter func107,ntmps107;go_wp2_with fail;clear u V
 go_loopw [1,5] (λnv iv wk=>∃(i:Nat) (m:Int) (z:Nat->Hd),i<=x.ms.n/\iv = .int .i64 ((i:Int)-1)/\nv = .int .i64 m/\Hid (gw A B r L (withMoves x ⟨x.ms.a,x.ms.n,x.ms.c,z⟩) b g q wk)/\Hid (Bm x b g n i m z)) (λ_ iv _=>(intOf iv+1).toNat)
 case atStart=>exact⟨x.ms.n,n,x.ms.z,Nat.le_refl _,rfl,rfl,f,D⟩
 clear f D;obtain⟨i,m,z,hi,rfl,rfl,f,D⟩:=hrel;have bp:=D.out.le;by_cases hd:i=0\/m<=0
 .have HD:Hid (z=l7 (ct b g) x.ms.n (max 0 n) x.ms.z/\max 0 m=uu (ct b g) (max 0 n) (qh x)):=D.out.done hi hd;obtain⟨u,-,-,-,V,-,-,-,-,-,-⟩:=f.out.boxed;have s:wr.cell? ⟨B,3,none⟩=some (.slice x.ms.a x.ms.n x.ms.c):=V;have W:Hid (Calls prog 151 #[.slice x.ms.a x.ms.n x.ms.c,.func (.func 152) #[] #[]] wr λe w'=>e = .returned (.slice x.ms.a (cq (ct b g) x.ms (max 0 n)).n x.ms.c)/\ai A w' (withMoves x (cq (ct b g) x.ms (max 0 n)))/\Below A wr w'/\(∀q t m g,t≠63->Blk wr q t m g->Blk w' q t m g)/\KeepsOthers wr w'):=by
   have hz:=HD.out.1;have hD:=X7 152 #[] ts A (withMoves x ⟨x.ms.a,x.ms.n,x.ms.c,z⟩) wr f.out.le f.out.own (enters_of func152 (by kernel_rfl) rfl) (λy wz _=>by rw[Array.append_empty];exact Rb y wz);rw[hz] at hD;exact hD
  clear V;by_cases br:i=0
  .have q1:¬(0:Int)<=(i:Int)-1:=by omega
   go_wp2_with fail;refine W.out.mono ?_;rintro e w2 ⟨rfl,Q,S,E,U⟩;have J:Hid (gw A B r L (withMoves x (cq (ct b g) x.ms (max 0 n))) b g q (w2.setCell ⟨B,3,none⟩ (.slice x.ms.a (cq (ct b g) x.ms (max 0 n)).n x.ms.c))):=f.out.newMoves (m:=cq (ct b g) x.ms (max 0 n)) Q S E U;have K:=E _ _ _ _ (by decide) f.out.box;have y1:=K.lt;have y2:=K.frozen 3;have y3:=K.k 3;clear Q S E U K W f D u s;go_wp2_with fail;go_ret;exact⟨m,rfl,HD.out.2,by omega,J.out⟩
  have bo:m<=0:=by omega
  have q1:(0:Int)<=(i:Int)-1:=by omega
  have q2:¬0<m:=by omega
  go_wp2_with fail;refine W.out.mono ?_;rintro e w2 ⟨rfl,Q,S,E,U⟩;have J:Hid (gw A B r L (withMoves x (cq (ct b g) x.ms (max 0 n))) b g q (w2.setCell ⟨B,3,none⟩ (.slice x.ms.a (cq (ct b g) x.ms (max 0 n)).n x.ms.c))):=f.out.newMoves (m:=cq (ct b g) x.ms (max 0 n)) Q S E U;have K:=E _ _ _ _ (by decide) f.out.box;have y1:=K.lt;have y2:=K.frozen 3;have y3:=K.k 3;clear Q S E U K W f D u s;go_wp2_with fail;go_ret;exact⟨m,rfl,HD.out.2,by omega,J.out⟩
 obtain⟨k,rfl⟩:∃k,i=k+1:=⟨i-1,by omega⟩;have hk:k<x.ms.n:=by omega
 have q1:(0:Int)<=(k:Int):=by omega
 have q2:0<m:=by omega
 have q3:(k:Int)<(x.ms.n:Int):=by omega
 have e1:(((k+1:Nat):Int)-1)=(k:Int):=by omega
 rw[e1];obtain⟨u,-,-,-,V,-,-,-,X,u8,-⟩:=f.out.boxed;obtain⟨G,hG,bq,hb⟩:=f.out.own.ms.2.2.2 (show 0<x.ms.n by omega);have HG:Hid (x.ms.a=some ⟨G,0,none⟩):=hG;have s:wr.cell? ⟨B,3,none⟩=some (.slice (some ⟨G,0,none⟩) x.ms.n x.ms.c):=by have h:=V;rw[hG] at h;exact h
 have z0:wr.cell? ⟨G,k*4,none⟩=some (.int .i64 (z k).o):=(hb.cell (j:=k*4) (by show k*4<x.ms.n*4;omega)).trans (congrArg some (re (z:=z) (c:=0) hk (by decide)));have z1:wr.cell? ⟨G,k*4+1,none⟩=some (.int .i64 (z k).l):=(hb.cell (j:=k*4+1) (by show _<x.ms.n*4;omega)).trans (congrArg some (re (z:=z) (c:=1) hk (by decide)));have Y:wr.cell? ⟨G,k*4+3,none⟩=some (.int .i64 (z k).n):=(hb.cell (j:=k*4+3) (by show _<x.ms.n*4;omega)).trans (congrArg some (re (z:=z) (c:=3) hk (by decide)));have gl:=hb.lt;have zp:=D.out.pos k hk;clear hb V
 generalize hZL:(z k).l=ZL at *
 generalize hZO:(z k).o=ZO at *
 have HZ:=qa2 hZL hZO;clear hZL hZO hd e1 hG;cases h1:(ZL==(b:Int))
 .have J:Hid (Bm x b g n k m z):=D.out.miss (λe=>by rw[HZ.out.1] at e;simp at h1;omega);have bb:(ZL !=(b:Int))=true:=by simp at h1 ⊢;omega
  have r3:=Qqq s;have r7:=Qqq X;have r8:=Qqq u8;have M:=Qqq z0;have T:=Qqq z1;go_wp2_with fail;refine Qxq (by kernel_rfl) (by kernel_rfl) ?_
  repeat(go_big_quiet_step(fail))
  refine Qqz ?_;intro _ P;obtain⟨⟨p,d⟩,H⟩:=P;subst H;have au:=Qqq Y p d;have ar:=Xzx gl (Qxx wr p d).size;have F:Hid (gw A B r L (withMoves x ⟨x.ms.a,x.ms.n,x.ms.c,z⟩) b g q (grow (redrawn wr p) d)):=f.out.below (Qxx wr p d);clear r3 r7 r8 M T s X u8 z0 z1 Y f gl u
  generalize grow (redrawn wr p) d=wz at *
  go_wp2_with fail;go_roundw
  case rel=>exact⟨k,m,z,by omega,by go_num,rfl,F,J⟩
  case measure=>simp[intOf]
 have bb:(ZL !=(b:Int))=false:=by simp at h1 ⊢;omega
 cases h2:(ZO==(g:Int))
 .have J:Hid (Bm x b g n k m z):=D.out.miss (λe=>by rw[HZ.out.2] at e;simp at h2;omega);have be:(ZO !=(g:Int))=true:=by simp at h2 ⊢;omega
  have r3:=Qqq s;have r7:=Qqq X;have r8:=Qqq u8;have M:=Qqq z0;have T:=Qqq z1;go_wp2_with fail;refine Qxq (by kernel_rfl) (by kernel_rfl) ?_
  repeat(go_big_quiet_step(fail))
  refine Qqz ?_;intro _ P;obtain⟨⟨p,d⟩,H⟩:=P;subst H;have au:=Qqq Y p d;have ar:=Xzx gl (Qxx wr p d).size;have F:Hid (gw A B r L (withMoves x ⟨x.ms.a,x.ms.n,x.ms.c,z⟩) b g q (grow (redrawn wr p) d)):=f.out.below (Qxx wr p d);clear r3 r7 r8 M T s X u8 z0 z1 Y f gl u
  generalize grow (redrawn wr p) d=wz at *
  go_wp2_with fail;go_roundw
  case rel=>exact⟨k,m,z,by omega,by go_num,rfl,F,J⟩
  case measure=>simp[intOf]
 have be:(ZO !=(g:Int))=false:=by simp at h2 ⊢;omega
 have J:Hid (Bm x b g n k (m-min m (z k).n) (ig z k (min m (z k).n))):=D.out.hit hk q2 (by rw[HZ.out.1];simpa using h1) (by rw[HZ.out.2];simpa using h2);have r3:=Qqq s;have r7:=Qqq X;have r8:=Qqq u8;have M:=Qqq z0;have T:=Qqq z1;go_wp2_with fail;refine Qxq (by kernel_rfl) (by kernel_rfl) ?_
 repeat(go_big_quiet_step(fail))
 refine Qqz ?_;intro _ P;obtain⟨⟨p,d⟩,H⟩:=P;subst H;have au:=Qqq Y p d;have ar:=Xzx gl (Qxx wr p d).size;have F:Hid (gw A B r L (withMoves x ⟨x.ms.a,x.ms.n,x.ms.c,z⟩) b g q (grow (redrawn wr p) d)):=f.out.below (Qxx wr p d);clear r3 r7 r8 M T s X u8 z0 z1 Y f gl u
 generalize grow (redrawn wr p) d=wz at *
 obtain⟨a4,a7,bf,aq⟩:=F.out.own.ms;obtain⟨G',ap,a0,ao⟩:=aq (show 0<x.ms.n by omega);have eG:G=G':=by
  have e:x.ms.a=some ⟨G',0,none⟩:=ap;rw[HG.out] at e
  simpa using e
 subst eG;have fz:=ao.frozen (k*4+3);have a5:Hid (gw A B r L (withMoves x ⟨x.ms.a,x.ms.n,x.ms.c,ig z k (min m (z k).n)⟩) b g q (wz.setCell ⟨G,k*4+3,none⟩ (.int .i64 ((z k).n-min m (z k).n)))):=F.out.moveN (i:=k) (G:=G) hk HG.out (min m (z k).n);clear a4 a7 bf aq ap a0 ao F
 generalize (z k).n=ZN at *
 go_wp2_with fail;go_roundw
 case rel=>exact⟨k,m-min m ZN,ig z k (min m ZN),by omega,by go_num,by go_num,a5,J⟩
 case measure=>simp[intOf]
def xh(dn:Nat->Bool)(i j:Nat):Bool:=if j=i then true else dn j
theorem J7(a:Nat->Bool)(i:Nat):xh a i i=true:=if_pos rfl
theorem pq{a:Nat->Bool}(h:¬j=i):xh a i j=a j:=if_neg h
theorem Qm{c:Array Oper}{T:Nat->Bool}{b:List Nat}{L:Array Bool}{I:(Nat->Bool)->(Nat->Value)->World->Prop}{fuel:Nat}(hB:uc c b L=true)(hT:∀r∈b,T r=false)
  (step:∀i∈b,∀(t:Nat->Bool) (V:Nat->Value) (w:World) (K:Act->World->Prop),S w->t i=false->(∀d∈l9 c i,d∈b->t d=true)->I t V w ->
   (∀v F,S F->I (xh t i) (upd V i v) F->K ((ap c b V a1).put (az c i) v) F)->wpOp P c Q i K (ap c b V a1) w)
  (done:∀(t:Nat->Bool) (V:Nat->Value) (w:World),S w->(∀j∈b,t j=true)->I t V w->rp P c Q S T fuel (kc L b) (ap c b V a1) w) :
  ∀(m:Nat) (a:Array Bool) (V:Nat->Value) (w:World),(b.filter (λr => !a.getD r true)).length=m->a.size=c.size->(∀j,j ∉ b->a[j]?=L[j]?)->pa c a->S w->I (λj=>a.getD j true) V w ->
   rp P c Q S T (m+fuel) a (ap c b V a1) w:=by
 simp only[uc,Xxx,decide_eq_true_eq] at hB;obtain⟨⟨⟨⟨ag,W⟩,ai⟩,a8⟩,ab⟩:=hB;have k:∀r∈b,r<c.size/\L.getD r true=false:=λr M=>by
  have:=List.all_eq_true.1 ai r M
  simpa using this
 intro m
 induction m with
 | zero =>
  intro a V w H u s D hS hI;have J:∀r∈b,a.getD r true=true:=λr M=>by
   cases hq:a.getD r true
   .have:r∈b.filter (λr => !a.getD r true):=List.mem_filter.2 ⟨M,by simp[hq]⟩;rw[List.length_eq_zero_iff.1 H] at this;simp at this
   rfl
  have hl:a=kc L b:=by
   apply Array.ext_getElem?
   intro j;by_cases n:j<L.size
   .rw[Ho b L j n];by_cases z:j∈b
    .rw[if_pos z];have g:=J j z;have f:j<a.size:=by omega
     simp only[Array.getD,f,dif_pos] at g;simp[f];exact g
    rw[if_neg z];exact s j z
   rw[Array.getElem?_eq_none (by omega),Array.getElem?_eq_none (by rw[Fd];omega)]
  rw[Nat.zero_add];have h:=done (λj=>a.getD j true) V w hS J hI;rw[<-hl] at h;exact h
 | succ m ih =>
  intro a V w H u s D hS hI;have Y:∃r∈b,a.getD r true=false:=by
   have aq:b.filter (λr => !a.getD r true)≠[]:=λe=>by rw[e] at H;simp at H
   obtain⟨x,hx⟩:=List.exists_mem_of_ne_nil _ aq;have:=List.mem_filter.1 hx;exact⟨x,this.1,by simpa using this.2⟩
  have am:∀d,L.getD d false=true->a.getD d false=true:=λd hd=>by
   by_cases y:d∈b
   .have g:=(k d y).2;have f:d<L.size:=by have:=(k d y).1;omega
    simp only[Array.getD,f,dif_pos] at g hd;rw[g] at hd;cases hd
   have g:=s d y;by_cases f:d<L.size
   .have G:d<a.size:=by omega
    simp only[Array.getD,f,G,dif_pos] at hd ⊢;simp only[Array.getElem?_eq_getElem f,Array.getElem?_eq_getElem G,Qkx] at g;rw[Array.getInternal_eq_getElem] at hd ⊢;rw[g];exact hd
   simp[Array.getD,f] at hd
  obtain⟨r0,a7,af⟩:=Dp u [] b W am (λd hd=>by simp at hd) (λr M=>(k r M).1) Y;rw[Nat.add_right_comm];refine⟨λh0=>absurd (h0▸af) (by simp),λi hi => ?_⟩;obtain⟨p,o,ho,ad⟩:=mem_ready.1 hi;have U:∀d∈l9 c i,a.getD d false=true:=λd hd=>by
   unfold l9 at hd;rw[ho] at hd;obtain⟨e,he,rfl⟩:=List.mem_map.1 hd;have:=List.mem_filter.1 he;exact ad e (by simpa using this.1) this.2
  have X:∀d,a.getD d false=true->a.getD d true=true:=λd hd=>by
   by_cases f:d<a.size
   .simpa[Array.getD,f] using hd
   simp[Array.getD,f]
  have l:i∈b:=by
   cases hc:b.contains i;rotate_left
   .exact Qjz hc
   exfalso;have a0:i<c.size:=(Qkq ho).1;have an:i ∉ b:=λh=>by
    have:=List.contains_iff_mem.2 h;rw[this] at hc;cases hc
   have g:=List.all_eq_true.1 ag i (List.mem_range.2 a0);have ay:L.getD i true=false:=by
    have f:=s i an;have G:i<L.size:=by omega
    have h4:i<a.size:=by omega
    simp only[Array.getElem?_eq_getElem G,Array.getElem?_eq_getElem h4,Qkx] at f;simp only[Array.getD,G,h4,dif_pos] at p ⊢;rw[Array.getInternal_eq_getElem] at p ⊢;rw[<-f];exact p
   rw[ay,hc] at g;simp only[Bool.false_or] at g;obtain⟨q,hq,al⟩:=Y;have h5:=List.all_eq_true.1 g q hq;have h6:=X q (yb D _ i q (Bc hi) h5);rw[al] at h6;cases h6
  have aw:i<a.size:=by rw[u];exact(k i l).1
  have ae:a.getD i true=false:=p;refine step i l (λj=>a.getD j true) V w _ hS ae (λd hd y=>X d (U d hd)) hI (λv F aa ao => ?_);refine⟨λ_=>aa,?_⟩;rw[Dk ab l];have B:∀j,(a.setIfInBounds i true).getD j true=if j=i then true else a.getD j true:=λj=>by
   by_cases n:j=i
   .subst n;simp[Array.getD,aw]
   rw[if_neg n,getD_set_ne true (λe=>n e.symm)]
  refine ih (a.setIfInBounds i true) (upd V i v) F ?_ (by simpa using u) (λj n => ?_) (D.set hi) aa ?_
  .have E:b.Nodup:=by
    exact(List.pairwise_map.1 ab).imp (λh e=>h (by rw[e]))
   have A:(b.filter (λr => !(a.setIfInBounds i true).getD r true))=(b.filter (λr => !a.getD r true)).erase i:=by
    have e2:b.filter (λr => !(a.setIfInBounds i true).getD r true)=(b.filter (λr => !a.getD r true)).filter (λr=>r !=i):=by
     rw[List.filter_filter];refine List.filter_congr λx hx => ?_;rw[B x];by_cases au:x=i<;>simp[au]
    rw[e2,<-List.Nodup.erase_eq_filter (E.filter _)]
   rw[A,List.length_erase_of_mem (List.mem_filter.2 ⟨l,by simp[p]⟩),H]
   rfl
  .rw[Array.getElem?_setIfInBounds,if_neg (λe:i=j=>n (by rw[<-e];exact l))];exact s j n
  have e:(λj=>(a.setIfInBounds i true).getD j true)=xh (λj=>a.getD j true) i:=funext λj=>B j;rw[e];exact ao
def adt(P:Program)(ops:Array Oper)(Q:Exit->Act->World->Prop)(S:World->Prop)(rem:List Nat)(a1:Act):Prop :=
 ∃I:(Nat->Bool)->(Nat->Value)->World->Prop,(∀(dn:Nat->Bool) (V:Nat->Value) (w:World),S w->(∀j∈rem,dn j=false)->I dn V w) /\
  (∀i∈rem,∀(dn:Nat->Bool) (V:Nat->Value) (w:World) (K:Act->World->Prop),S w->dn i=false->(∀d∈l9 ops i,d∈rem->dn d=true)->I dn V w ->
   (∀v w',S w'->I (xh dn i) (upd V i v) w'->K ((ap ops rem V a1).put (az ops i) v) w')->wpOp P ops (NoPanic Q) i K (ap ops rem V a1) w) /\
  (∀(dn:Nat->Bool) (V:Nat->Value) (w:World),S w->(∀j∈rem,dn j=true)->I dn V w->NoPanic Q .normal (ap ops rem V a1) w)
theorem Bl{l:List Oper}{a:Act}(S:World->Prop)(d b:List Nat)
  (B:P.follows .mixedOrders=true) (hs:Region.noSelect l.toArray=true) (F:Bv l.toArray d (Array.replicate l.length false)=true) (p:d.all (λk=>decide (k<l.length))=true) (J:((du l d).all Cz)=true)
  (y:uc l.toArray b (kc (Array.replicate l.length false) d)=true) (G:J0 l.toArray [] (kc (kc (Array.replicate l.length false) d) b)=true) (E:d.length+b.length=l.length)
  (n:S w.drew) (h:wpQuiet P l.toArray S (adt P l.toArray Q S b) (du l d) a):(Code.region R l.toArray true).wp P Q a w:=by
 refine wp_region_noPanic (wp_region_any B ?_);have e:=y;simp only[uc,Xxx,decide_eq_true_eq] at e;have key:=wi (Q:=NoPanic Q) (T:=λ_=>false) (N:=l.toArray.size) (fuel:=b.length) (w:=w.drew) hs n (λc a L w h=>(h:False).elim) d (du l d) _ a F (λk M=>⟨rfl,λj m=>by cases m⟩) (pa.none _ _) (Ei p) J h (λa1 D v => ?_)
 .have:=zh _ _ _ _ key;rw[E] at this
  simpa using this
 obtain⟨I,g,step,done⟩:=D;have f:(b.filter (λr => !(kc (Array.replicate l.length false) d).getD r true))=b:=by
  rw[List.filter_eq_self];intro r K;have:=List.all_eq_true.1 e.1.1.2 r K;simp only[Xxx] at this;exact this.2
 have x:∀j∈b,(kc (Array.replicate l.length false) d).getD j true=false:=λj m=>by
  have:=List.all_eq_true.1 e.1.1.2 j m;simp only[Xxx] at this
  simpa using this.2
 obtain⟨o,s⟩:∃o,ap l.toArray b o a1=a1:=⟨_,z4 a1 b⟩;have:=Qm (P:=P) (Q:=NoPanic Q) (S:=S) (T:=λ_=>false) (a1:=a1) (fuel:=0) (I:=I) y (λ_ _=>rfl) step
  (λH V q z hd A=>Bk [] _ _ q G (λt i u=>by simp at u) (done H V q z hd A))
  b.length (kc (Array.replicate l.length false) d) o w.drew (by rw[f]) e.1.2 (λ_ _=>rfl) v n (g _ _ _ n x)
 rw[s] at this;exact this
theorem Ti(V:Nat->Value)(i:Nat)(v:Value):upd V i v i=v:=if_pos rfl
theorem Em(V:Nat->Value)(v:Value)(h:¬j=i):upd V i v j=V j:=if_neg h
theorem Rc{l:List Oper}{a:Act}(b:List Nat)
  (z:P.follows .mixedOrders=true) (q:uc l.toArray b (Array.replicate l.length false)=true) (E:J0 l.toArray [] (kc (Array.replicate l.length false) b)=true) (B:b.length=l.length)
  (I:(Nat->Bool)->(Nat->Value)->World->Prop) (h:∀(c:Nat->Bool) (V:Nat->Value),(∀j∈b,c j=false)->I c V w.drew)
  (step:∀i∈b,∀(c:Nat->Bool) (V:Nat->Value) (w:World) (K:Act->World->Prop),c i=false->(∀d∈l9 l.toArray i,d∈b->c d=true)->I c V w ->
   (∀v e,I (xh c i) (upd V i v) e->K ((ap l.toArray b V a).put (az l.toArray i) v) e)->wpOp P l.toArray (NoPanic Q) i K (ap l.toArray b V a) w)
  (done:∀(c:Nat->Bool) (V:Nat->Value) (w:World),(∀j∈b,c j=true)->I c V w->NoPanic Q .normal (ap l.toArray b V a) w):(Code.region R l.toArray true).wp P Q a w:=by
 refine wp_region_noPanic (wp_region_any z ?_);have f:=q;simp only[uc,Xxx,decide_eq_true_eq] at f;have g:(b.filter (λr => !(Array.replicate l.length false).getD r true))=b:=by
  rw[List.filter_eq_self];intro r G;have:=List.all_eq_true.1 f.1.1.2 r G;simp only[Xxx] at this;exact this.2
 have p:∀j∈b,(Array.replicate l.length false).getD j true=false:=λj D=>by
  have:=List.all_eq_true.1 f.1.1.2 j D;simp only[Xxx] at this
  simpa using this.2
 obtain⟨m,n⟩:∃m,ap l.toArray b m a=a:=⟨_,z4 a b⟩;have:=Qm (P:=P) (Q:=NoPanic Q) (S:=λ_=>True) (T:=λ_=>false) (a1:=a) (fuel:=0) (I:=I) q (λ_ _=>rfl) (λi hi c V w K _ x u y F=>step i hi c V w K x u y λv e A=>F v e trivial A)
  (λc V e H hd s=>Bk [] _ _ e E (λt i o=>by simp at o) (done c V e hd s))
  b.length (Array.replicate l.length false) m w.drew (by rw[g]) f.1.2 (λ_ _=>rfl) (pa.none _ _) trivial (h _ _ p)
 rw[n] at this;have k:=zh _ _ _ _ this;rw[B] at k
 simpa using k
end Go.Proofs.YtbcacebifpagpagGreat
