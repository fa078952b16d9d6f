/- Texts that were built one behind the other, joined; what is not reached is left out. -/
import Derived.Test.YtbcacebifpagpagGreatK3Log
import Derived.Lib.SliceRun
import Derived.Recover
import Derived.RegionTactic
import Derived.ChangeAlike
import Derived.BigRegion
set_option maxHeartbeats 8000000
set_option maxRecDepth 100000
namespace Go.Proofs.YtbcacebifpagpagGreat
variable{n b A g o l c i q j R L M:Nat}{w a d:World}{s x y u:St}{r W J D:Int}{e H:TypeId}{p:Pl}{z O:Nat->Hd}{f f':Nat->Value}{Q:Exit->Act->World->Prop}{v c1 c3 c2:Value}{xs:List Value}{U V:Hs}{X Y:Int->Int->Int}{P:Program}{h Z:Hd}{t:List UInt8}{E:Hd->Bool}{z' zs:Nat->Int}{S:World->Prop}{a1:Act}{K:Act->World->Prop}
open _root_.Go.Proofs.Tryz
open Go.RowKit Go.Shelf
set_option linter.unusedVariables false
theorem ac2(w:World):(zeroValue 3).run prog w = .ok (.int .i64 0) w:=by kernel_rfl
theorem Blk.setCells{g:Nat}{e:TypeId}{n:Nat}{f:Nat->Value}:∀(a:List Value) (o:Nat) (w:World),Blk w g e n f->n<=o->Blk (w.setCells g o a) g e n f
 | [],_,_,h,_=>h
 | v :: r,o,w,h,hn=>by
  rw[World.setCells];exact Blk.setCells r (o+1) _ ((h.set o v).congr λj b=>by rw[if_neg (by omega)]) (by omega)
theorem zr{B g:Nat}(b:B<=g){a:World}:∀(c:List Value) (o:Nat) (w:World),Below B a w->Below B a (w.setCells g o c)
 | [],_,_,h=>h
 | v :: r,o,w,h=>by
  rw[World.setCells];exact zr b r (o+1) _ (h.setCell (p:=⟨g,o,none⟩) b v)
theorem Blk.less{m:Nat}(h:Blk w g e n f)(d:m<=n):Blk w g e m f:=by
 obtain⟨cur,b,i,a⟩:=h;exact⟨cur,b,by omega,λj c=>a j (by omega)⟩
theorem adx(f:Nat)(caps:Array Value)(bad:Nat->Bool)(A:Nat)(a:Option Addr)(n c:Nat)(w:World)(B:A<=w.heap.size)(F:n<=c)(hc:c<=maxLen)(z:Nat->Int)(u:xp w a n z)
  (E:∀args w,(callFunc f args).run prog w = .ok (.enter f args) w)
  (D:Hid (∀i d,i<n->Below A w d->Calls prog f (#[.int .i64 (z i)]++caps) d λe q=>e = .returned (.bool (bad i))/\Below d.heap.size d q)) :
  Calls prog 126 #[.slice a n c,.func (.func f) #[] caps] w λe q=>((e = .returned (.int .i64 (-1))/\∀j,j<n->bad j=false)\/∃k,k<n/\e = .returned (.int .i64 (k:Nat))/\bad k=true/\∀j,j<k->bad j=false)/\Below w.heap.size w q:=by
 unfold maxLen at hc;go_enter func126,ntmps126;go_wp2_with fail
 go_loopw [8] (λi d=>∃k:Nat,k<=n/\i = .int .i64 k/\(∀j,j<k->bad j=false)/\Below w.heap.size w d) (λi _=>n-(intOf i).toNat)
 case atStart=>exact⟨0,Qxz _,rfl,λj v=>absurd v (Qzq _),Below.refl _ _⟩
 obtain⟨k,G,rfl,m,l⟩:=hrel;have r:=hid m;clear m;by_cases g:k<n;rotate_left
 .go_wp2_with fail;go_ret;have s:k=n:=by omega
  subst s;exact⟨Or.inl ⟨rfl,r.out⟩,l⟩
 obtain⟨b,o,rfl,_,y⟩:=(u.below l) k g;clear u;go_wp2_with fail;refine(D.out k wr g (l.mono B)).mono ?_;rintro e d ⟨rfl,t⟩;have p:=l.trans (t.mono l.size);cases h:bad k
 .go_wp2_with fail;go_roundw
  case measure=>simp[intOf];omega
  refine⟨k+1,by omega,by go_num,?_,p⟩;intro j v;by_cases x:j=k
  .rw[x,h]
  exact r.out j (by omega)
 go_wp2_with fail;go_ret;exact⟨Or.inr ⟨k,g,rfl,h,r.out⟩,p⟩
def sq(bad:Int->Bool)(xs:List Int)(k:Nat):List Int:=(xs.take k).filter (λx => !bad x)
theorem Mi(bad:Int->Bool)(xs:List Int):sq bad xs xs.length=xs.filter (λx => !bad x):=by unfold sq;rw[List.take_length]
theorem J3{bad:Int->Bool}{xs:List Int}{k:Nat}(a:k<xs.length):sq bad xs (k+1)=sq bad xs k++if bad (xs.getD k 0) then [] else [xs.getD k 0]:=by
 unfold sq;have e:xs.getD k 0=xs[k]:=by simp[List.getD,List.getElem?_eq_getElem a]
 rw[List.take_add_one,List.getElem?_eq_getElem a,List.filter_append,e]
 congr 1
 cases h:bad xs[k]<;>simp[h]
theorem J2{bad:Int->Bool}{xs:List Int}:∀{k:Nat},k<=xs.length->(∀j,j<k->bad (xs.getD j 0)=false)->sq bad xs k=xs.take k
 | 0,_,_=>by simp[sq]
 | k+1,hk,h=>by
  rw[J3 (by omega),J2 (k:=k) (by omega) (λj a=>h j (by omega)),h k (by omega),List.take_add_one];simp[List.getD,List.getElem?_eq_getElem (show k<xs.length by omega)]
def Rd(g:Nat)(bad:Int->Bool)(xs:List Int)(k:Nat)(wk:World):Prop:=∃c:Nat->Value,Blk wk g 3 xs.length c/\(∀q,q<(sq bad xs k).length->c q = .int .i64 ((sq bad xs k).getD q 0))/\∀q,k<=q->q<xs.length->c q = .int .i64 (xs.getD q 0)
theorem aaj(f:Nat)(caps:Array Value)(bad:Int->Bool)(A g cap:Nat)(xs:List Int)(w:World)(hA:A<=g)(H:A<=w.heap.size)(hn:xs.length<=cap)(K:cap<=maxLen)(hb:Blk w g 3 xs.length (λj => .int .i64 (xs.getD j 0)))
  (eg:∀args w,(callFunc f args).run prog w = .ok (.enter f args) w)
  (hf:Hid (∀(x:Int) n,Below A w n->Calls prog f (#[.int .i64 x]++caps) n λe W=>e = .returned (.bool (bad x))/\Below n.heap.size n W)) :
  Calls prog 143 #[.slice (some ⟨g,0,none⟩) xs.length cap,.func (.func f) #[] caps] w λe W=>e = .returned (.slice (some ⟨g,0,none⟩) (xs.filter (λx => !bad x)).length cap)/\Blk W g 3 (xs.filter (λx => !bad x)).length (λj => .int .i64 ((xs.filter (λx => !bad x)).getD j 0))/\Below A w W:=by
 have T:=K;unfold maxLen at K;have L:=hid hb;have hz:xp w (some ⟨g,0,none⟩) xs.length (λj=>xs.getD j 0):=hb.ints;clear hb;go_enter func143,ntmps143;go_wp2_with fail;refine(adx f caps (λj=>bad (xs.getD j 0)) A _ _ _ w H hn T _ hz eg (λi n _ h=>hf.out _ n h)).mono ?_;rintro e n ⟨h,u⟩;clear hz;have Q:=u.mono H;rcases h with⟨rfl,o⟩|⟨B,av,rfl,M,o⟩
 .have P:xs.filter (λx => !bad x)=xs:=by
   have:=J2 (bad:=bad) (Nat.le_refl xs.length) o;rw[Mi,List.take_length] at this;exact this
  have HF:=hid P;clear P o;go_wp2_with fail;go_ret;rw[HF.out];exact⟨rfl,L.out.below u,Q⟩
 have D:sq bad xs (B+1)=xs.take B:=by rw[J3 av,J2 (by omega) o,M];simp
 have S:(sq bad xs (B+1)).length=B:=by rw[D,List.length_take];omega
 have H0:Hid (Rd g bad xs (B+1) n):=⟨_,L.out.below u,λq z=>by
  rw[S] at z;rw[D];simp only[List.getD,List.getElem?_take,if_pos z],λq _ _=>rfl⟩
 have G:=hid S;clear D S M o L;go_wp2_with fail
 go_loopw [5,6] (λi j wk=>∃k:Nat,k<=xs.length/\j = .int .i64 k/\i = .int .i64 ((sq bad xs k).length:Nat)/\(sq bad xs k).length<k/\Hid (Rd g bad xs k wk)/\Below A w wk) (λ_ j _=>xs.length-(intOf j).toNat)
 case atStart=>exact⟨B+1,by omega,by go_num,by rw[G.out],by rw[G.out];omega,H0,Q⟩
 clear H0 G Q u;obtain⟨k,hk,rfl,rfl,l,U,V⟩:=hrel;by_cases v:k<xs.length;rotate_left
 .have an:k=xs.length:=by omega
  subst an;obtain⟨c,a,b,r⟩:=U.out;have d:Hid (sq bad xs xs.length=xs.filter (λx => !bad x)):=Mi bad xs;rw[Mi] at l b ⊢;obtain⟨I,s⟩:∃I,(xs.filter (λx => !bad x)).length=I:=⟨_,rfl⟩;have HI:=hid s;rw[s] at l b ⊢;clear s;obtain⟨N,hN⟩:∃N,xs.length=N:=⟨_,rfl⟩;rw[hN] at l hn a ⊢;clear hN r v hk U;have a3:¬cap=I:=by omega
  have a2:∀ty,(Builtin.clear_ #[23] ty #[.slice (some ⟨g,I,none⟩) (N-I) (cap-I)]).run prog wr = .ok (.tuple #[]) (wr.setCells g I (List.replicate (N-I) (.int .i64 0))):=λty =>
   Lib.run_clear_slice wr 23 3 ty (.int .i64 0) underlying23 ac2 rfl rfl g I (N-I) (cap-I) (by omega) (λj hj=>by rw[a.cell (by omega)];rfl) (λj _=>a.frozen _)
  have af:Hid (Blk (wr.setCells g I (List.replicate (N-I) (.int .i64 0))) g 3 I (λj => .int .i64 ((xs.filter (λx => !bad x)).getD j 0))/\Below A w (wr.setCells g I (List.replicate (N-I) (.int .i64 0)))):=
   ⟨Blk.setCells _ _ _ ((a.less (by omega)).congr λj hj=>b j hj) nlr,zr hA _ _ _ V⟩
  clear a b;go_wp2_with fail;go_ret;rw[HI.out];exact⟨rfl,af.out⟩
 obtain⟨c,a,b,r⟩:=U.out;have t:=qa3 a b r;have z0:wr.cell? ⟨g,k,none⟩=some (.int .i64 (xs.getD k 0)):=(a.cell v).trans (by rw[r k nlr v]);have Y:Hid (sq bad xs (k+1)=sq bad xs k++if bad (xs.getD k 0) then [] else [xs.getD k 0]):=J3 v;clear a b r U;obtain⟨X,hX⟩:∃X,xs.getD k 0=X:=⟨_,rfl⟩;have ac:=hid hX;rw[hX] at z0;clear hX;obtain⟨I,s⟩:∃I,(sq bad xs k).length=I:=⟨_,rfl⟩;have d:=hid s;rw[s] at l ⊢;clear s;go_wp2_with fail;refine(hf.out X wr V).mono ?_;rintro e w2 ⟨rfl,ab⟩;have aa:=V.trans (ab.mono (Qzx H V.size));have y:=t.out.1.below ab;cases ad:bad X;rotate_left
 .have m:Hid (Rd g bad xs (k+1) w2/\(sq bad xs (k+1)).length=I):=by
   have F:sq bad xs (k+1)=sq bad xs k:=by rw[Y.out,ac.out,ad];simp
   rw[F];exact⟨⟨c,y,by rw[F];exact t.out.2.1,λq z E=>t.out.2.2 q (by omega) E⟩,d.out⟩
  clear y t Y;go_wp2_with fail;go_roundw
  case rel=>exact⟨_,_,_,_,_,_,_,_,_,_,_,_,_,_,_,_,_,_,_,_,_,_,_,⟨k+1,by omega,by go_num,by rw[m.out.2],by rw[m.out.2];omega,m.out.1,aa⟩,rfl⟩
  case measure=>simp[intOf];omega
 have y1:=y.frozen I;have y2:=y.cell (j:=I) (by omega);have KB:=y.set I (.int .i64 X);have m:Hid (Rd g bad xs (k+1) (w2.setCell ⟨g,I,none⟩ (.int .i64 X))/\Below A w (w2.setCell ⟨g,I,none⟩ (.int .i64 X))/\(sq bad xs (k+1)).length=I+1):=by
  have F:sq bad xs (k+1)=sq bad xs k++[X]:=by rw[Y.out,ac.out,ad];rfl
  have e2:(sq bad xs (k+1)).length=I+1:=by rw[F,List.length_append,d.out];rfl
  refine⟨⟨_,KB,λq z => ?_,λq z E => ?_⟩,aa.setCell (p:=⟨g,I,none⟩) hA _,e2⟩
  .rw[e2] at z;show(if q=I then Value.int .i64 X else c q)=_;rw[F];by_cases J:q=I
   .rw[if_pos J];simp only[List.getD];rw[List.getElem?_append_right (by rw[d.out];omega),d.out,J];simp
   rw[if_neg J,t.out.2.1 q (by rw[d.out];omega)];simp only[List.getD];rw[List.getElem?_append_left (by rw[d.out];omega)]
  show(if q=I then Value.int .i64 X else c q)=_;rw[if_neg (by omega),t.out.2.2 q (by omega) E]
 clear y KB t Y;go_wp2_with fail;go_roundw
 case rel=>exact⟨_,_,_,_,_,_,_,_,_,_,_,_,_,_,_,_,_,_,_,_,_,_,_,⟨k+1,by omega,by go_num,by rw[m.out.2.2];go_num,by rw[m.out.2.2];omega,m.out.1,m.out.2.1⟩,rfl⟩
 case measure=>simp[intOf];omega
def hd0:Hd:=⟨0,0,0,0⟩
def hc(c:Nat->Hd)(q:Nat):Value:=(dc (c (q/4))).getD (q%4) default
theorem Rf(c:Nat->Hd)(i:Nat):hc c (i*4) = .int .i64 (c i).o/\hc c (i*4+1) = .int .i64 (c i).l/\hc c (i*4+2) = .int .i64 (c i).b/\hc c (i*4+3) = .int .i64 (c i).n:=by
 unfold hc;refine⟨?_,?_,?_,?_⟩
 .rw[show i*4/4=i by omega,show i*4%4=0 by omega];rfl
 .rw[show(i*4+1)/4=i by omega,show(i*4+1)%4=1 by omega];rfl
 .rw[show(i*4+2)/4=i by omega,show(i*4+2)%4=2 by omega];rfl
 rw[show(i*4+3)/4=i by omega,show(i*4+3)%4=3 by omega];rfl
theorem ws(a:q<n*4):(ay n z).getD q default=hc z q:=by
 have h:=xv n z (q/4) (q%4) (by omega) (by omega);rw[show q/4*4+q%4=q by omega] at h;unfold hc;simp only[List.getD];rw[h]
def set4(w:World)(g i:Nat)(x:Hd):World:=(((w.setCell ⟨g,i*4,none⟩ (.int .i64 x.o)).setCell ⟨g,i*4+1,none⟩ (.int .i64 x.l)).setCell ⟨g,i*4+2,none⟩ (.int .i64 x.b)).setCell ⟨g,i*4+3,none⟩ (.int .i64 x.n)
theorem Blk.set4{c:Nat->Hd}(h:Blk w g e n (hc c))(i:Nat)(x:Hd):Blk (set4 w g i x) g e n (hc λj=>if j=i then x else c j):=by
 unfold Go.Proofs.YtbcacebifpagpagGreat.set4;refine((((h.set _ _).set _ _).set _ _).set _ _).congr λq l => ?_;have a:=Rf (λj=>if j=i then x else c j) i;simp only[if_pos] at a;by_cases d:q=i*4+3
 .rw[if_pos d,d,a.2.2.2]
 rw[if_neg d];by_cases f:q=i*4+2
 .rw[if_pos f,f,a.2.2.1]
 rw[if_neg f];by_cases k:q=i*4+1
 .rw[if_pos k,k,a.2.1]
 rw[if_neg k];by_cases b:q=i*4
 .rw[if_pos b,b,a.1]
 rw[if_neg b];unfold hc;dsimp only;rw[if_neg (by omega)]
theorem M8(b:A<=g)(h:Below A a w)(i:Nat)(x:Hd):Below A a (set4 w g i x):=by
 unfold set4;exact(((h.setCell (p:=⟨g,i*4,none⟩) b _).setCell (p:=⟨g,i*4+1,none⟩) b _).setCell (p:=⟨g,i*4+2,none⟩) b _).setCell (p:=⟨g,i*4+3,none⟩) b _
theorem Blk.hds{c:Nat->Hd}(h:Blk w g e (n*4) (hc c)):jj w (some ⟨g,0,none⟩) n c:=λi hi=>by
 have a:=Rf c i;refine⟨g,0,rfl,h.lt,?_,?_,?_,?_⟩
 .rw[Nat.zero_add];exact(h.cell (by omega)).trans (by rw[a.1])
 .rw[Nat.zero_add];exact(h.cell (by omega)).trans (by rw[a.2.1])
 .rw[Nat.zero_add];exact(h.cell (by omega)).trans (by rw[a.2.2.1])
 rw[Nat.zero_add];exact(h.cell (by omega)).trans (by rw[a.2.2.2])
theorem Xo(w:World)(g:TypeId)(b o n c:Nat)(q:0<n)(hc:∀j,j<n*4->(w.cell? ⟨b,o+j,none⟩).isSome=true)(h:∀j,j<n*4->w.frozen? ⟨b,o+j,none⟩=false):
  (Builtin.clear_ #[28] g #[.slice (some ⟨b,o,none⟩) n c]).run prog w = .ok (.tuple #[]) (w.setCells b o (List.replicate (n*4) (.int .i64 0))):=by
 have d:(Builtin.zeroCells (Value.agg #[.int .i64 0,.int .i64 0,.int .i64 0,.int .i64 0]).cells n).toList=List.replicate (n*4) (.int .i64 0):=by
  rw[show(Value.agg #[.int .i64 0,.int .i64 0,.int .i64 0,.int .i64 0]).cells=#[.int .i64 0,.int .i64 0,.int .i64 0,.int .i64 0] from rfl]
  apply List.ext_getElem
  .simp[Builtin.zeroCells]
  intro i l p;have f:i%4<4:=by omega
  simp[Builtin.zeroCells]
  generalize i%4=k at f
  match k,f with
  | 0,_=>rfl
  | 1,_=>rfl
  | 2,_=>rfl
  | 3,_=>rfl
 have a:=run_storeCells_cells (P:=prog) b o (List.replicate (n*4) (.int .i64 0)) 0 w (by simpa using hc) (by simpa using h) (by intro v e;rw[List.eq_of_mem_replicate e];rfl);simp only[Nat.add_zero] at a;obtain⟨m,rfl⟩:∃m,n=m+1:=⟨n-1,by omega⟩;simp only[Builtin.clear_];simp[d,a]
def ir(g:Nat)(w w':World):Prop:=w.heap.size<=w'.heap.size/\∀q,q<w.heap.size->q≠g->w'.heap[q]?=w.heap[q]?
theorem ir.refl(g:Nat)(w:World):ir g w w:=⟨Nat.le_refl _,λ_ _ _=>rfl⟩
theorem ir.below(h:ir g w a)(c:Below a.heap.size a d):ir g w d:=⟨Qzx h.1 c.size,λq e b=>(c.block q (Xzx e h.1)).trans (h.2 q e b)⟩
theorem ir.set{b:World}(h:ir g w b)(j:Nat)(u:Value):ir g w (b.setCell ⟨g,j,none⟩ u):=⟨by simpa using h.1,λq c a=>(Below.heap_setCell b ⟨g,j,none⟩ u q a).trans (h.2 q c a)⟩
theorem ir.cells{g:Nat}{w:World}:∀(b:List Value) (o:Nat) (a:World),ir g w a->ir g w (a.setCells g o b)
 | [],_,_,h=>h
 | v :: r,o,a,h=>by
  rw[World.setCells];exact ir.cells r (o+1) _ (h.set o v)
theorem ir.set4(h:ir g w a)(i:Nat)(x:Hd):ir g w (Go.Proofs.YtbcacebifpagpagGreat.set4 a g i x):=by
 unfold Go.Proofs.YtbcacebifpagpagGreat.set4;exact(((h.set _ _).set _ _).set _ _).set _ _
theorem ir.blk(h:ir g w a){t:TypeId}{m:Nat}(d:Blk w q t m f)(c:q≠g):Blk a q t m f:=by
 have b:=d.lt;obtain⟨cur,e,i⟩:=d;exact⟨cur,(h.2 q b c).trans e,i⟩
theorem ab4(f:Nat)(caps:Array Value)(bad:Hd->Bool)(A:Nat)(a:Option Addr)(n c:Nat)(w:World)(J:A<=w.heap.size)(M:n<=c)(hc:c<=maxLen)(z:Nat->Hd)(y:jj w a n z)
  (L:∀args w,(callFunc f args).run prog w = .ok (.enter f args) w)
  (K:Hid (∀(x:Hd) d,Below A w d->Calls prog f (#[x.val]++caps) d λe s=>e = .returned (.bool (bad x))/\Below d.heap.size d s)) :
  Calls prog 133 #[.slice a n c,.func (.func f) #[] caps] w λe s=>((e = .returned (.int .i64 (-1))/\∀j,j<n->bad (z j)=false)\/∃k,k<n/\e = .returned (.int .i64 (k:Nat))/\bad (z k)=true/\∀j,j<k->bad (z j)=false)/\Below w.heap.size w s:=by
 unfold maxLen at hc;go_enter func133,ntmps133;go_wp2_with fail
 go_loopw [8] (λi d=>∃k:Nat,k<=n/\i = .int .i64 k/\Hid (∀j,j<k->bad (z j)=false)/\Below w.heap.size w d) (λi _=>n-(intOf i).toNat)
 case atStart=>exact⟨0,Qxz _,rfl,λj m=>absurd m (Qzq _),Below.refl _ _⟩
 obtain⟨k,P,rfl,p,l⟩:=hrel;by_cases q:k<n;rotate_left
 .go_wp2_with fail;go_ret;have t:k=n:=by omega
  subst t;exact⟨Or.inl ⟨rfl,p.out⟩,l⟩
 obtain⟨b,o,rfl,_,F,G,u,B⟩:=(y.below l) k q;clear y;have H:Hid (∀j,j<k+1->bad (z k)=false->bad (z j)=false):=λj m h=>by
  by_cases E:j=k
  .rw[E];exact h
  exact p.out j (by omega)
 go_wp2_with fail;refine(K.out (z k) wr (l.mono J)).mono ?_;rintro e d ⟨rfl,v⟩;have r:=l.trans (v.mono l.size);cases g:bad (z k)
 .have D:Hid (∀j,j<k+1->bad (z j)=false):=λj m=>H.out j m g;clear H p;go_wp2_with fail;go_roundw
  case rel=>exact⟨k+1,by omega,by go_num,D,r⟩
  case measure=>simp[intOf];omega
 go_wp2_with fail;go_ret;exact⟨Or.inr ⟨k,q,rfl,g,p.out⟩,r⟩
def i9(bad:Hd->Bool)(xs:List Hd)(k:Nat):List Hd:=(xs.take k).filter (λx => !bad x)
theorem Fh(bad:Hd->Bool)(xs:List Hd):i9 bad xs xs.length=xs.filter (λx => !bad x):=by unfold i9;rw[List.take_length]
theorem Bj{bad:Hd->Bool}{xs:List Hd}{k:Nat}(a:k<xs.length):i9 bad xs (k+1)=i9 bad xs k++if bad (xs.getD k hd0) then [] else [xs.getD k hd0]:=by
 unfold i9;have e:xs.getD k hd0=xs[k]:=by simp[List.getD,List.getElem?_eq_getElem a]
 rw[List.take_add_one,List.getElem?_eq_getElem a,List.filter_append,e]
 congr 1
 cases h:bad xs[k]<;>simp[h]
theorem Bi{bad:Hd->Bool}{xs:List Hd}:∀{k:Nat},k<=xs.length->(∀j,j<k->bad (xs.getD j hd0)=false)->i9 bad xs k=xs.take k
 | 0,_,_=>by simp[i9]
 | k+1,hk,h=>by
  rw[Bj (by omega),Bi (k:=k) (by omega) (λj a=>h j (by omega)),h k (by omega),List.take_add_one];simp[List.getD,List.getElem?_eq_getElem (show k<xs.length by omega)]
def Mu(g:Nat)(bad:Hd->Bool)(xs:List Hd)(k:Nat)(wk:World):Prop:=∃c:Nat->Hd,Blk wk g 61 (xs.length*4) (hc c)/\(∀q,q<(i9 bad xs k).length->c q=(i9 bad xs k).getD q hd0)/\∀q,k<=q->q<xs.length->c q=xs.getD q hd0
theorem Rj(f:Nat)(caps:Array Value)(bad:Hd->Bool)(A g cap:Nat)(xs:List Hd)(w:World)(hA:A<=g)(J:A<=w.heap.size)(hn:xs.length<=cap)(ab:cap<=maxLen)(hb:Blk w g 61 (xs.length*4) (hc λj=>xs.getD j hd0))
  (eg:∀args w,(callFunc f args).run prog w = .ok (.enter f args) w)
  (hf:Hid (∀(x:Hd) L,Below A w L->Calls prog f (#[x.val]++caps) L λe U=>e = .returned (.bool (bad x))/\Below L.heap.size L U)) :
  Calls prog 97 #[.slice (some ⟨g,0,none⟩) xs.length cap,.func (.func f) #[] caps] w λe U=>e = .returned (.slice (some ⟨g,0,none⟩) (xs.filter (λx => !bad x)).length cap)/\Blk U g 61 ((xs.filter (λx => !bad x)).length*4) (hc λj=>(xs.filter (λx => !bad x)).getD j hd0)/\Below A w U/\ir g w U:=by
 have ah:=ab;unfold maxLen at ab;have ac:=hid hb;have hz:jj w (some ⟨g,0,none⟩) xs.length (λj=>xs.getD j hd0):=hb.hds;clear hb;go_enter func97,ntmps97;go_wp2_with fail;refine(ab4 f caps bad A _ _ _ w J hn ah _ hz eg hf).mono ?_;rintro e L ⟨h,t⟩;clear hz;have af:=t.mono J;rcases h with⟨rfl,D⟩|⟨P,a7,rfl,ad,D⟩
 .have ae:xs.filter (λx => !bad x)=xs:=by
   have:=Bi (bad:=bad) (Nat.le_refl xs.length) D;rw[Fh,List.take_length] at this;exact this
  have HF:=hid ae;clear ae D;go_wp2_with fail;go_ret;rw[HF.out];exact⟨rfl,ac.out.below t,af,(ir.refl g w).below t⟩
 have Q:i9 bad xs (P+1)=xs.take P:=by rw[Bj a7,Bi (by omega) D,ad];simp
 have ag:(i9 bad xs (P+1)).length=P:=by rw[Q,List.length_take];omega
 have H0:Hid (Mu g bad xs (P+1) L):=⟨_,ac.out.below t,λq K=>by
  rw[ag] at K;rw[Q];simp only[List.getD,List.getElem?_take,if_pos K],λq _ _=>rfl⟩
 have V:=hid ag;clear Q ag ad D ac;go_wp2_with fail
 go_loopw [5,6] (λi j wk=>∃k:Nat,k<=xs.length/\j = .int .i64 k/\i = .int .i64 ((i9 bad xs k).length:Nat)/\(i9 bad xs k).length<k/\Hid (Mu g bad xs k wk)/\Below A w wk/\Hid (ir g w wk)) (λ_ j _=>xs.length-(intOf j).toNat)
 case atStart=>exact⟨P+1,by omega,by go_num,by rw[V.out],by rw[V.out];omega,H0,af,(ir.refl g w).below t⟩
 clear H0 V af t;obtain⟨k,hk,rfl,rfl,v,HD,hB,m⟩:=hrel;by_cases Y:k<xs.length;rotate_left
 .have az:k=xs.length:=by omega
  subst az;obtain⟨c,a,p,E⟩:=HD.out;rw[Fh] at v p ⊢;obtain⟨I,F⟩:∃I,(xs.filter (λx => !bad x)).length=I:=⟨_,rfl⟩;have HI:=hid F;rw[F] at v p ⊢;clear F;obtain⟨N,hN⟩:∃N,xs.length=N:=⟨_,rfl⟩;rw[hN] at v hn a ⊢;clear hN E Y hk HD;have bn:¬cap=I:=by omega
  have bm:∀ty,(Builtin.clear_ #[28] ty #[.slice (some ⟨g,I*4,none⟩) (N-I) (cap-I)]).run prog wr = .ok (.tuple #[]) (wr.setCells g (I*4) (List.replicate ((N-I)*4) (.int .i64 0))):=λty =>
   Xo wr ty g (I*4) (N-I) (cap-I) (by omega) (λj hj=>by rw[a.cell (by omega)];rfl) (λj _=>a.frozen _)
  have ap:Hid (Blk (wr.setCells g (I*4) (List.replicate ((N-I)*4) (.int .i64 0))) g 61 (I*4) (hc λj=>(xs.filter (λx => !bad x)).getD j hd0)/\Below A w (wr.setCells g (I*4) (List.replicate ((N-I)*4) (.int .i64 0)))/\ir g w (wr.setCells g (I*4) (List.replicate ((N-I)*4) (.int .i64 0)))):=
   ⟨Blk.setCells _ _ _ ((a.less (by omega)).congr λj hj=>by unfold hc;rw[p (j/4) (by omega)]) nlr,zr hA _ _ _ hB,m.out.cells _ _ _⟩
  clear a p;go_wp2_with fail;go_ret;rw[HI.out];exact⟨rfl,ap.out⟩
 obtain⟨c,a,p,E⟩:=HD.out;have r:=qa3 a p E;have HS:Hid (i9 bad xs (k+1)=i9 bad xs k++if bad (xs.getD k hd0) then [] else [xs.getD k hd0]):=Bj Y;obtain⟨X,hX⟩:∃X,xs.getD k hd0=X:=⟨_,rfl⟩;have am:=hid hX;have an:c k=X:=by rw[E k nlr Y,hX]
 have M:=Rf c k;rw[an] at M;have z0:wr.cell? ⟨g,k*4,none⟩=some (.int .i64 X.o):=(a.cell (by omega)).trans (by rw[M.1]);have z1:wr.cell? ⟨g,k*4+1,none⟩=some (.int .i64 X.l):=(a.cell (by omega)).trans (by rw[M.2.1]);have z2:wr.cell? ⟨g,k*4+2,none⟩=some (.int .i64 X.b):=(a.cell (by omega)).trans (by rw[M.2.2.1]);have z3:wr.cell? ⟨g,k*4+3,none⟩=some (.int .i64 X.n):=(a.cell (by omega)).trans (by rw[M.2.2.2]);have zl:=a.lt;clear a p E HD hX an M;obtain⟨I,F⟩:∃I,(i9 bad xs k).length=I:=⟨_,rfl⟩;have u:=hid F;rw[F] at v ⊢;clear F;obtain⟨W,hW,G,KX⟩:∃W,wr.alloc (.cells #[.int .i64 X.o,.int .i64 X.l,.int .i64 X.b,.int .i64 X.n] 61)=W/\Below wr.heap.size wr W/\Blk W wr.heap.size 61 4 (λj=>(#[.int .i64 X.o,.int .i64 X.l,.int .i64 X.b,.int .i64 X.n]:Array Value).getD j default):=⟨_,rfl,brf.alloc nlr _,Blk.mk' rfl rfl⟩;have HW:Hid (wr.alloc (.cells #[.int .i64 X.o,.int .i64 X.l,.int .i64 X.b,.int .i64 X.n] 61)=W):=hW;have H:=hB.trans (G.mono (Qzx J hB.size));have r:Hid (Blk W g 61 (xs.length*4) (hc c)/\(∀q,q<(i9 bad xs k).length->c q=(i9 bad xs k).getD q hd0)/\∀q,k<=q->q<xs.length->c q=xs.getD q hd0):=⟨r.out.1.below G,r.out.2⟩;have m:Hid (ir g w W):=m.out.below G;clear hW G;go_wp2_with fail;rw[HW.out];refine(hf.out X W H).mono ?_;rintro e y ⟨rfl,B⟩;have al:=H.trans (B.mono (Qzx J H.size));have m:Hid (ir g w y):=m.out.below B;have d:=r.out.1.below B;have s:=KX.below B;have xl:=s.lt;have x0:y.cell? ⟨wr.heap.size,0,none⟩=some (.int .i64 X.o):=s.k 0;have x1:y.cell? ⟨wr.heap.size,1,none⟩=some (.int .i64 X.l):=s.k 1;have x2:y.cell? ⟨wr.heap.size,2,none⟩=some (.int .i64 X.b):=s.k 2;have x3:y.cell? ⟨wr.heap.size,3,none⟩=some (.int .i64 X.n):=s.k 3;clear z0 z1 z2 z3 zl KX s HW hB H B
 generalize wr.heap.size=BX at *
 cases ao:bad X;rotate_left
 .have z:Hid (Mu g bad xs (k+1) y/\(i9 bad xs (k+1)).length=I):=by
   have T:i9 bad xs (k+1)=i9 bad xs k:=by rw[HS.out,am.out,ao];simp
   rw[T];exact⟨⟨c,d,by rw[T];exact r.out.2.1,λq K S=>r.out.2.2 q (by omega) S⟩,u.out⟩
  clear d r HS;go_wp2_with fail;go_roundw
  case rel=>exact⟨_,_,_,_,_,_,_,_,_,_,_,_,_,_,_,_,_,_,_,_,_,_,_,⟨k+1,by omega,by go_num,by rw[z.out.2],by rw[z.out.2];omega,z.out.1,al,m⟩,rfl⟩
  case measure=>simp[intOf];omega
 have y0:=d.cell (j:=I*4) (by omega);have y1:=d.cell (j:=I*4+1) (by omega);have y2:=d.cell (j:=I*4+2) (by omega);have y3:=d.cell (j:=I*4+3) (by omega);have f0:=d.frozen (I*4);have f1:=d.frozen (I*4+1);have f2:=d.frozen (I*4+2);have f3:=d.frozen (I*4+3);have yl:=d.lt
 generalize hc c (I*4)=V0 at y0
 generalize hc c (I*4+1)=V1 at y1
 generalize hc c (I*4+2)=V2 at y2
 generalize hc c (I*4+3)=V3 at y3
 have KB:=d.set4 I X;have z:Hid (Mu g bad xs (k+1) (set4 y g I X)/\Below A w (set4 y g I X)/\(i9 bad xs (k+1)).length=I+1/\ir g w (set4 y g I X)):=by
  have T:i9 bad xs (k+1)=i9 bad xs k++[X]:=by rw[HS.out,am.out,ao];rfl
  have e2:(i9 bad xs (k+1)).length=I+1:=by rw[T,List.length_append,u.out];rfl
  refine⟨⟨_,KB,λq K => ?_,λq K S => ?_⟩,M8 hA al I X,e2,m.out.set4 I X⟩
  .rw[e2] at K;show(if q=I then X else c q)=_;rw[T];by_cases aa:q=I
   .rw[if_pos aa];simp only[List.getD];rw[List.getElem?_append_right (by rw[u.out];omega),u.out,aa];simp
   rw[if_neg aa,r.out.2.1 q (by rw[u.out];omega)];simp only[List.getD];rw[List.getElem?_append_left (by rw[u.out];omega)]
  show(if q=I then X else c q)=_;rw[if_neg (by omega),r.out.2.2 q (by omega) S]
 clear d KB r HS;go_wp2_with fail;go_roundw
 case rel=>exact⟨_,_,_,_,_,_,_,_,_,_,_,_,_,_,_,_,_,_,_,_,_,_,_,⟨k+1,by omega,by go_num,by rw[z.out.2.2.1];go_num,by rw[z.out.2.2.1];omega,z.out.1,z.out.2.1,z.out.2.2.2⟩,rfl⟩
 case measure=>simp[intOf];omega
open Go.Sort
def Ba(os:Os)(o:Nat)(v:Int):Os:=⟨os.a,os.n,os.c,λi=>if i=o then ⟨v,(os.z i).ls⟩ else os.z i⟩
def dj(s:St)(o:Nat)(v:Int):St:=⟨s.on,Ba s.os o v,s.hs,s.ms,s.si,s.so,s.sf⟩
theorem vo(s:St)(o:Nat)(v:Int):(dj s o v).os.z o=⟨v,(s.os.z o).ls⟩:=if_pos rfl
theorem Cb(os:Os)(o:Nat)(v:Int)(i:Nat):((Ba os o v).z i).ls=(os.z i).ls:=by
 show(if i=o then(⟨v,(os.z i).ls⟩:Od) else os.z i).ls=_;by_cases h:i=o
 .rw[if_pos h]
 rw[if_neg h]
theorem kq.kind{s:Os}(h:kq A w s)(E:o<s.n)(e:s.a=some ⟨g,0,none⟩)(v:Int):kq A (w.setCell ⟨g,o*2,none⟩ (.int .i64 v)) (Ba s o v):=by
 obtain⟨D,c,t,r⟩:=h.list (by omega);rw[e] at c;simp only[Qkx,Qkz,and_true] at c;subst c;refine⟨h.le,h.cap,λF=>⟨g,e,t,(r.set (o*2) (.int .i64 v)).congr λq B => ?_⟩,λi hi => ?_,λi j k d=>by rw[Cb,Cb];exact h.apart i j k d,h.room.set _ _ _⟩;rotate_left
 .rw[Cb];obtain⟨C,a1,x,y,u,l⟩:=h.lines i hi;exact⟨C,a1,x,y,u,l.other (a:=⟨g,o*2,none⟩) (Blk.ne2 l r (by decide)) _⟩
 have hd:q=q/2*2+q%2:=by omega
 have hi:q/2<s.n:=by omega
 have m:q%2<2:=by omega
 have p:=qc (z:=s.z) hi m;have f:=qc (z:=(Ba s o v).z) hi m;rw[<-hd] at p f;show(if q=o*2 then Value.int .i64 v else(jq s.n s.z).getD q default)=(jq s.n (Ba s o v).z).getD q default;rw[p,f];show _=(qy (if q/2=o then(⟨v,(s.z (q/2)).ls⟩:Od) else s.z (q/2))).getD (q%2) default;by_cases d:q/2=o
 .rw[if_pos d];have b:q%2=0\/q%2=1:=by omega
  rcases b with b|b
  .rw[if_pos (by omega),b];rfl
  rw[if_neg (by omega),b];rfl
 rw[if_neg d,if_neg (by omega)]
theorem ai.kind(h:ai A w s)(k:o<s.os.n)(d:s.os.a=some ⟨g,0,none⟩)(v:Int):ai A (w.setCell ⟨g,o*2,none⟩ (.int .i64 v)) (dj s o v):=by
 obtain⟨p,c,m,b⟩:=h.os.list (by omega);rw[d] at c;simp only[Qkx,Qkz,and_true] at c;subst c;refine⟨?_,λi hi=>(h.rows i hi).other b (by decide) _ _,h.rapart,h.os.kind k d v,h.hs.other b (by decide) _ _,h.ms.other b (by decide) _ _,h.msr.set _ _ _,h.si.other b (by decide) _ _,h.so.other b (by decide) _ _,h.sf.other b (by decide) _ _,h.aio,h.aif,h.aof,h.ari⟩;obtain⟨q,j,a1,f,l,e⟩:=h.on;exact⟨q,j,a1,f,l,e.other (a:=⟨g,o*2,none⟩) (Blk.ne2 e b (by decide)) _⟩
def Kl(s:St)(i:Nat):St:=fj (dj s i 1) i (s.os.z i).ls.n
theorem Uq(x:St)(i A E:Nat)(w:World)(S:A<=w.heap.size)(q:ai A w x)(hi:i<x.os.n)(d:x.os.a=some ⟨E,0,none⟩)(t:∀j,j<(x.os.z i).ls.n->(0<=((x.os.z i).ls.z j).l/\((x.os.z i).ls.z j).l<=200)/\0<=((x.os.z i).ls.z j).b/\((x.os.z i).ls.z j).b<=200):
  Calls prog 95 #[.pointer (some ⟨E,i*2,none⟩)] w λe B=>∃y:St,e = .returned (.tuple #[])/\((x.os.z i).k=0->y=Kl x i)/\(¬(x.os.z i).k=0->y=x)/\ai A B y/\Below A w B/\pb w B:=by
 obtain⟨g,m,L,c⟩:=q.os.list (by omega);have J:g=E:=by rw[d] at m;simpa using m.symm
 subst J;have v:=c.cell (j:=i*2) (by omega);have e0:=qc (z:=x.os.z) hi (show 0<2 by decide);rw[Nat.add_zero] at e0;rw[e0] at v;have c1:w.cell? ⟨g,i*2,none⟩=some (.int .i64 (x.os.z i).k):=v;have T:=c.lt;have gf:=c.frozen (i*2);have P:=hid q;have o:Hid (ai A (w.setCell ⟨g,i*2,none⟩ (.int .i64 1)) (dj x i 1)/\Below A w (w.setCell ⟨g,i*2,none⟩ (.int .i64 1))/\pb w (w.setCell ⟨g,i*2,none⟩ (.int .i64 1))/\w.heap.size<=(w.setCell ⟨g,i*2,none⟩ (.int .i64 1)).heap.size):=by
  have G:=(Below.refl A w).setCell (p:=⟨g,i*2,none⟩) L (.int .i64 1);exact⟨q.kind hi d 1,G,(pb.refl w).setOrder c _ _,G.size⟩
 have F:Hid (∀j,j<((dj x i 1).os.z i).ls.n->(0<=(((dj x i 1).os.z i).ls.z j).l/\(((dj x i 1).os.z i).ls.z j).l<=200)/\0<=(((dj x i 1).os.z i).ls.z j).b/\(((dj x i 1).os.z i).ls.z j).b<=200):=by
  show ∀j,j<((dj x i 1).os.z i).ls.n->_;rw[vo];exact t
 have H:=hid d;clear q m c d t v e0;by_cases f:(x.os.z i).k=0;rotate_left
 .have K:((x.os.z i).k !=0)=true:=by simpa using f
  have D:Hid (¬(x.os.z i).k=0):=f;clear f
  generalize (x.os.z i).k=Q at *
  go_enter func95,ntmps95;go_wp2_with fail
  first|go_end0|refine Xzq (results_none rfl _ _ _) rfl ?_
  exact⟨x,rfl,λh=>absurd h D.out,λ_=>rfl,P.out,Below.refl _ _,pb.refl _⟩
 have K:((x.os.z i).k !=0)=false:=by simpa using f
 have D:Hid ((x.os.z i).k=0):=f;clear f
 generalize (x.os.z i).k=Q at *
 go_enter func95,ntmps95;go_wp2_with fail;refine(Sw (dj x i 1) i A g _ (Qzx S o.out.2.2.2) o.out.1 hi H.out F.out).mono ?_;rintro e U ⟨rfl,s,u,r⟩;have M:=qa3 s (o.out.2.1.trans u) (o.out.2.2.1.trans r);clear s u r;go_wp2_with fail
 first|go_end0|refine Xzq (results_none rfl _ _ _) rfl ?_
 refine⟨Kl x i,rfl,λ_=>rfl,λh=>absurd D.out h,?_,M.out.2⟩;have h:=M.out.1;rw[vo] at h;exact h
theorem Tu(B:Nat)(x:Hd)(order:Int)(w:World)(f:B<w.heap.size)(c:w.cell? ⟨B,0,none⟩=some (.int .i64 order)):
  Calls prog 98 #[x.val,.pointer (some ⟨B,0,none⟩)] w λe d=>e = .returned (.bool (x.o==order))/\Below w.heap.size w d:=by
 have a:=(Below.refl w.heap.size w).alloc nlr (.cells #[.int .i64 x.o,.int .i64 x.l,.int .i64 x.b,.int .i64 x.n] 61);unfold Hd.val;go_enter func98,ntmps98;go_wp2_with fail;go_ret;exact⟨rfl,a⟩
def iw(h:Hs):List Hd:=(List.range h.n).map h.z
theorem nx(h:Hs):(iw h).length=h.n:=by simp[iw]
theorem Ma{h:Hs}(a:j<h.n):(iw h).getD j hd0=h.z j:=by
 unfold iw;simp[List.getD,a]
def dz(h:Hs)(bad:Hd->Bool):Hs:=⟨h.a,((iw h).filter (λx => !bad x)).length,h.c,λj=>((iw h).filter (λx => !bad x)).getD j hd0⟩
theorem Ad(h:Hs)(bad:Hd->Bool):(dz h bad).n<=h.n:=by
 have:=List.length_filter_le (λx => !bad x) (iw h);rw[nx] at this;exact this
theorem V9{h k:Hs}(c:h.n=k.n)(a:∀j,j<h.n->h.z j=k.z j)(bad:Hd->Bool):(dz h bad).n=(dz k bad).n/\(dz h bad).z=(dz k bad).z:=by
 have e:iw h=iw k:=by
  unfold iw;rw[<-c];exact List.map_congr_left λj b=>a j (List.mem_range.1 b)
 unfold dz;rw[e];exact⟨rfl,rfl⟩
theorem j9.keepG{b:World}{r:Rw}(h:j9 A w r)(d:Blk w g 61 n f)(K:ir g w b):j9 A b r:=by
 obtain⟨q,e,c,j,i,a⟩:=h;exact⟨q,e,c,j,i,K.blk a (Blk.ne2 a d (by decide))⟩
theorem cw.keepG{t:TypeId}{b:World}{s:Hs}(h:cw A t w s)(j:Blk w g 61 n f)(c:t≠61)(K:ir g w b):cw A t b s:=by
 obtain⟨i,m,k,l⟩:=h;refine⟨i,m,k,λo => ?_⟩;obtain⟨q,d,e,a⟩:=l o;exact⟨q,d,e,K.blk a (Blk.ne2 a j c)⟩
theorem fu.keepG{t:TypeId}{i:World}{d:Nat}{a:Option Addr}(h:fu A w t d a c)(l:Blk w g 61 n f)(j:t≠61)(K:ir g w i):fu A i t d a c:=by
 refine h.same λq cur b=>K.2 q (Qkq b).1 λe => ?_;obtain⟨c2,k,_⟩:=l;rw[e,k] at b;cases b;exact j rfl
theorem kq.keepG{s:Os}(h:kq A w s)(b:Blk w g 61 n f)(K:ir g w d):kq A d s:=by
 refine⟨h.le,h.cap,λk => ?_,λi hi => ?_,h.apart,h.room.keepG b (by decide) K⟩
 .obtain⟨q,a1,c,a⟩:=h.list k;exact⟨q,a1,c,K.blk a (Blk.ne2 a b (by decide))⟩
 obtain⟨C,a1,c,a,j,e⟩:=h.lines i hi;exact⟨C,a1,c,a,j,K.blk e (Blk.ne2 e b (by decide))⟩
theorem ai.keepG{b:World}{h:Hs}(k:ai A w s)(a:Blk w g 61 n f)(K:ir g w b)(d:cw A 61 b h):ai A b (Go.Proofs.YtbcacebifpagpagGreat.withHolds s h):=by
 refine⟨?_,λi hi=>(k.rows i hi).keepG a K,k.rapart,k.os.keepG a K,d,k.ms.keepG a (by decide) K,k.msr.keepG a (by decide) K,k.si.keepG a K,k.so.keepG a K,k.sf.keepG a K,k.aio,k.aif,k.aof,k.ari⟩;obtain⟨q,j,a1,e,l,c⟩:=k.on;exact⟨q,j,a1,e,l,K.blk c (Blk.ne2 c a (by decide))⟩
theorem Rk(f:Nat)(caps:Array Value)(bad:Hd->Bool)(a:Option Addr)(cap:Nat)(w:World)(c:cap<=maxLen)
  (l:∀args w,(callFunc f args).run prog w = .ok (.enter f args) w)
  (m:Hid (∀(x:Hd) b,Below w.heap.size w b->Calls prog f (#[x.val]++caps) b λe g=>e = .returned (.bool (bad x))/\Below b.heap.size b g)) :
  Calls prog 97 #[.slice a (0:Nat) cap,.func (.func f) #[] caps] w λe g=>e = .returned (.slice a (0:Nat) cap)/\Below w.heap.size w g:=by
 have d:=c;unfold maxLen at c;go_enter func97,ntmps97;go_wp2_with fail;refine(ab4 f caps bad w.heap.size a 0 cap w nlr (Qxz _) d (λ_=>hd0) (λi hi=>absurd hi (Qzq _)) l m).mono ?_;rintro e b ⟨h,j⟩;rcases h with⟨rfl,-⟩|⟨n,k,-⟩
 .go_wp2_with fail;go_ret;exact⟨rfl,j⟩
 exact absurd k (Qzq _)
theorem aam(f:Nat)(caps:Array Value)(bad:Hd->Bool)(A:Nat)(s:St)(w:World)(k:A<=w.heap.size)(y:ai A w s)
  (E:∀args w,(callFunc f args).run prog w = .ok (.enter f args) w)
  (L:∀(x:Hd) b,Below A w b->Calls prog f (#[x.val]++caps) b λe i=>e = .returned (.bool (bad x))/\Below b.heap.size b i) :
  Calls prog 97 #[.slice s.hs.a s.hs.n s.hs.c,.func (.func f) #[] caps] w λe i=>e = .returned (.slice (dz s.hs bad).a (dz s.hs bad).n (dz s.hs bad).c)/\ai A i (withHolds s (dz s.hs bad))/\Below A w i/\(∀q t m g,t≠61->Blk w q t m g->Blk i q t m g):=by
 obtain⟨D,o,F,Q⟩:=y.hs;by_cases M:s.hs.n=0
 .have hd:(dz s.hs bad).n=0:=by have:=Ad s.hs bad;omega
  rw[M,hd];refine(Rk f caps bad s.hs.a s.hs.c w o E (λx b d=>L x b (d.mono k))).mono ?_;rintro e b ⟨rfl,d⟩;refine⟨rfl,(y.below d).withHolds ⟨by rw[hd];exact Qxz _,o,F,λh=>absurd h (by omega)⟩,d.mono k,λq t m g _ v=>v.below d⟩
 obtain⟨g,r,K,v⟩:=Q (by omega);have l:Blk w g 61 ((iw s.hs).length*4) (hc λj=>(iw s.hs).getD j hd0):=by
  rw[nx];refine v.congr λq u => ?_;rw[ws u];unfold hc;dsimp only;rw[Ma (by omega)]
 have J:=Rj f caps bad A g s.hs.c (iw s.hs) w K k (by rw[nx];exact D) o l E L;rw[nx] at J;rw[r];refine J.mono ?_;rintro e b ⟨rfl,B,d,H⟩;have P:=Ad s.hs bad;refine⟨by show _=Ending.returned (.slice s.hs.a _ _);rw[r];rfl,y.keepG l H ⟨Qzx P D,o,F,λ_=>⟨g,r,K,B.congr λq u=>(ws (z:=(dz s.hs bad).z) u).symm⟩⟩,d,λq t m f' G p=>H.blk p (Blk.ne2 p l G)⟩
theorem Qg(n:Nat)(z:Nat->Hd)(o l b:Int):keptV n z o l b=(((List.range n).map z).find? (λx=>bp x o l b)).elim 0 (λx=>x.n):=by
 unfold keptV;rw[List.find?_map];cases h:(List.range n).find? (λi=>bp (z i) o l b) with
 | none =>
  have a:(List.range n).find? ((λx=>bp x o l b) ∘ z)=none:=h;rw[a]
  rfl
 | some i =>
  have a:(List.range n).find? ((λx=>bp x o l b) ∘ z)=some i:=h;rw[a]
  rfl
theorem Wo(n:Nat)(L:List Hd)(h:n=L.length):(List.range n).map (λj=>L.getD j hd0)=L:=by
 subst h
 apply List.ext_getElem
 .simp
 intro i b a;simp[List.getD,a]
theorem Ng(h:Hs)(bad:Hd->Bool):iw (dz h bad)=(iw h).filter (λx => !bad x):=Wo _ _ rfl
theorem Uc(h:Hs)(bad:Hd->Bool)(o l b:Int):keptV (dz h bad).n (dz h bad).z o l b=((iw h).find? (λx => !bad x&&bp x o l b)).elim 0 (λx=>x.n):=by
 rw[Qg];have e:(List.range (dz h bad).n).map (dz h bad).z=(iw h).filter (λx => !bad x):=Ng h bad;rw[e,List.find?_filter];have c:(λa=>decide ((!bad a)=true/\bp a o l b=true))=λx => !bad x&&bp x o l b:=by
  funext a
  cases bad a<;>cases bp a o l b<;>rfl
 rw[c]
theorem Wn(h:Hs)(o l b:Int):keptV h.n h.z o l b=((iw h).find? (λx=>bp x o l b)).elim 0 (λx=>x.n):=Qg _ _ _ _ _
theorem Nf(h:Hs)(bad:Hd->Bool){o l b:Int}{B:Bool}(c:∀x,bp x o l b=true->bad x=B):keptV (dz h bad).n (dz h bad).z o l b=if B then 0 else keptV h.n h.z o l b:=by
 rw[Uc];cases B
 .rw[if_neg (by decide),Wn];have e:(λx => !bad x&&bp x o l b)=λx=>bp x o l b:=by
   funext x
   cases a:bp x o l b
   .simp
   rw[c x a];rfl
  rw[e]
 rw[if_pos rfl];have e:(iw h).find? (λx => !bad x&&bp x o l b)=none:=by
  rw[List.find?_eq_none];intro x _;cases a:bp x o l b
  .simp
  rw[c x a];simp
 rw[e]
 rfl
theorem Jg{h:Hs}{bad:Hd->Bool}(p:∀i j,i<j->j<h.n->ba (h.z i)<ba (h.z j))(t:∀i,i<h.n->bad (h.z i)=false->ie (h.z i)=true):ax (dz h bad).n (db (dz h bad).z)=false:=by
 have v:(iw h).Pairwise (λx y=>ba x<ba y):=by
  rw[List.pairwise_iff_getElem];intro i j hi d e;have l:j<h.n:=by rw[nx] at d;exact d
  have s:(iw h)[i]=h.z i:=by simp[iw]
  have m:(iw h)[j]=h.z j:=by simp[iw]
  rw[s,m];exact p i j e l
 have g:=v.filter (λx => !bad x);have a:∀i (hi:i<((iw h).filter (λx => !bad x)).length),(dz h bad).z i=((iw h).filter (λx => !bad x))[i]:=λi hi=>by
  show((iw h).filter (λx => !bad x)).getD i hd0=_;rw[List.getD_eq_getElem?_getD,List.getElem?_eq_getElem hi]
  rfl
 refine Hy (λi hi => ?_) λi hi => ?_
 .rw[a i hi];have f:=List.getElem_mem hi;rw[List.mem_filter] at f;obtain⟨o,u⟩:=f;obtain⟨k,r,q⟩:∃k,k∈List.range h.n/\h.z k=((iw h).filter (λx => !bad x))[i]:=List.mem_map.1 o;have b:bad (((iw h).filter (λx => !bad x))[i])=false:=by simpa using u
  rw[<-q] at b ⊢;exact t k (List.mem_range.1 r) b
 have c:i+1<((iw h).filter (λx => !bad x)).length:=hi;rw[a i (by omega),a (i+1) c];rw[List.pairwise_iff_getElem] at g;exact g i (i+1) (by omega) c (by omega)
theorem Lc{h:Hs}(bad:Hd->Bool)(a:ax h.n (db h.z)=false):ax (dz h bad).n (db (dz h bad).z)=false:=Jg (λi j b c=>nk a i j b c) λi hi _=>cd a i hi
theorem Nh{p:Nat}(a:ax n (db z)=false)(c:p<n):ax (n-1) (db (fw z p))=false:=by
 refine Hy (λi hi => ?_) λi hi => ?_
 .unfold fw
  split
  .exact cd a i (by omega)
  exact cd a (i+1) (by omega)
 unfold fw;by_cases b:i+1<p
 .rw[if_pos (by omega),if_pos b];exact nk a _ _ (by omega) (by omega)
 rw[if_neg b]
 split
 .exact nk a _ _ (by omega) (by omega)
 exact nk a _ _ (by omega) (by omega)
theorem Yy{p:Nat}(c:ax n (db z)=false)(d:p<n)(o l b:Int):keptV (n-1) (fw z p) o l b=if bp (z p) o l b then 0 else keptV n z o l b:=by
 have i:=Nh c d;cases g:bp (z p) o l b;rotate_left
 .rw[if_pos rfl];refine kw λj m => ?_;cases q:bp (fw z p j) o l b
  .rfl
  have e:=Hp q g;unfold fw at e
  split at e
  .have:=nk c j p (by omega) d;omega
  have:=nk c p (j+1) (by omega) (by omega);omega
 rw[if_neg (by decide)];rcases sx n z o l b with h|⟨k,r,t,a⟩
 .rw[kw h,kw λj m => ?_];unfold fw
  split
  .exact h j (by omega)
  exact h (j+1) (by omega)
 have s:¬k=p:=λe=>by rw[e,g] at a;exact absurd a (by decide)
 rw[(o6 c r a).1];by_cases f:k<p
 .have e:fw z p k=z k:=if_pos f;rw[(o6 i (k:=k) (by omega) (by rw[e];exact a)).1,e]
 have e:fw z p (k-1)=z k:=by
  unfold fw;rw[if_neg (by omega),show k-1+1=k by omega]
 rw[(o6 i (k:=k-1) (by omega) (by rw[e];exact a)).1,e]
theorem Sj{o l b:Int}(a:ax n (db z)=false):Ck n z o l b=if keptV n z o l b=0 then 4 else 0:=by
 unfold Ck;rw[if_pos (Ay a)]
theorem aa2{o l b:Int}(a:ax n (db z)=false):Dc n z o l b=keptV n z o l b:=by
 unfold Dc;rw[if_pos (Ay a)]
def im(k:Nat)(i:Nat)(o:Od):Od:=if i<k/\o.k=0 then ⟨1,yv o.ls o.ls.n⟩ else o
def dh(s:St)(k:Nat):St:=⟨s.on,⟨s.os.a,s.os.n,s.os.c,λi=>im k i (s.os.z i)⟩,s.hs,s.ms,s.si,s.so,s.sf⟩
theorem xc{k:Nat}(o:Od)(h:k<=i):im k i o=o:=if_neg (by omega)
theorem Qt(s:St):dh s 0=s:=by
 unfold dh;have e:(λi=>im 0 i (s.os.z i))=s.os.z:=funext λi=>xc _ (Qxz _);rw[e]
theorem Ap(k i:Nat)(o:Od):(im k i o).ls.n=o.ls.n:=by
 unfold im
 split<;>rfl
theorem Ta{k:Nat}(h:(s.os.z k).k=0):Kl (dh s k) k=dh s (k+1):=by
 unfold Kl fj dj dh Hk Ba;dsimp only
 congr 2
 funext a
 rw[Ap];by_cases c:a=k
 .subst c;rw[if_pos rfl,if_pos rfl,xc _ nlr];unfold im;rw[if_pos ⟨by omega,h⟩]
 rw[if_neg c,if_neg c];unfold im;by_cases b:a<k/\(s.os.z a).k=0
 .rw[if_pos b,if_pos ⟨by omega,b.2⟩]
 rw[if_neg b,if_neg (λe=>b ⟨by omega,e.2⟩)]
theorem Qs{k:Nat}(h:¬(s.os.z k).k=0):dh s k=dh s (k+1):=by
 unfold dh
 congr 2
 funext a
 unfold im;by_cases b:a<k/\(s.os.z a).k=0
 .rw[if_pos b,if_pos ⟨by omega,b.2⟩]
 rw[if_neg b,if_neg (λe=>b ⟨by
  have:¬a=k:=λc=>h (by rw[<-c];exact e.2);omega,e.2⟩)]
theorem Dl(k i:Nat)(o:Od)(j:Nat):((im k i o).ls.z j).o=(o.ls.z j).o/\((im k i o).ls.z j).l=(o.ls.z j).l/\((im k i o).ls.z j).b=(o.ls.z j).b:=by
 unfold im
 split
 .show((if j<o.ls.n then xi (o.ls.z j) else o.ls.z j).o=_)/\((if j<o.ls.n then xi (o.ls.z j) else o.ls.z j).l=_)/\((if j<o.ls.n then xi (o.ls.z j) else o.ls.z j).b=_)
  split<;>exact⟨rfl,rfl,rfl⟩
 exact⟨rfl,rfl,rfl⟩
theorem Xj{o a:Od}(k i:Nat)(h:a.k=o.k/\a.ls.n=o.ls.n/\∀j,j<a.ls.n->a.ls.z j=o.ls.z j):(im k i a).k=(im k i o).k/\(im k i a).ls.n=(im k i o).ls.n/\∀j,j<(im k i a).ls.n->(im k i a).ls.z j=(im k i o).ls.z j:=by
 unfold im;by_cases c:i<k/\o.k=0
 .rw[if_pos c,if_pos ⟨c.1,h.1.trans c.2⟩];refine⟨rfl,h.2.1,λj d => ?_⟩;show(if j<a.ls.n then xi (a.ls.z j) else a.ls.z j)=if j<o.ls.n then xi (o.ls.z j) else o.ls.z j;have b:j<a.ls.n:=d;rw[if_pos b,if_pos (by omega),h.2.2 j b]
 rw[if_neg c,if_neg (λe=>c ⟨e.1,h.1.symm.trans e.2⟩)];exact h
theorem Ju(h:af x s)(k:Nat):af (dh x k) (dh s k):=
 ⟨h.on,⟨h.os.1,λi hi=>Xj k i (h.os.2 i hi)⟩,h.hs,h.ms,h.si,h.so,h.sf⟩
theorem Hx(r:ar p s){k:Nat}(hi:i<s.os.n)(d:j<(s.os.z i).ls.n)(c:i<k/\(s.os.z i).k=0):(im k i (s.os.z i)).k=1/\((s.os.z i).ls.z j).b=0/\((s.os.z i).ls.z j).n=0/\keptS s.hs.z i j s.hs.n=0/\((im k i (s.os.z i)).ls.z j).n=((s.os.z i).ls.z j).l:=by
 have w:=r.orders i hi;unfold ch at w;rw[Xxq] at w;have a:cp (s.os.z i).k ((s.os.z i).ls.z j) (keptS s.hs.z i j s.hs.n)=false:=dk w.2 j d;unfold cp at a;rw[if_pos c.2] at a;simp only[Xxq,Bool.not_eq_false',beq_iff_eq] at a;unfold im;rw[if_pos c];refine⟨rfl,a.1.1,a.1.2,a.2,?_⟩;show(if j<(s.os.z i).ls.n then xi ((s.os.z i).ls.z j) else(s.os.z i).ls.z j).n=_;rw[if_pos d];show((s.os.z i).ls.z j).l-((s.os.z i).ls.z j).b=_;omega
theorem Xl(r:ar p s)(k:Nat):cx p (dh s k):=by
 have f:=r.fm;refine⟨f.sh,f.sh0,f.os4,f.ms8,λi hi => ?_,λi hi => ?_,λi hi j b => ?_,f.hold,λi hi => ?_,f.move,f.sin,f.son,f.sfn,f.sib,f.sob,f.sfb⟩
 .show 1<=(im k i (s.os.z i)).ls.n/\(im k i (s.os.z i)).ls.n<=3;rw[Ap];exact f.lns i hi
 .show 0<=(im k i (s.os.z i)).k/\(im k i (s.os.z i)).k<=2;unfold im
  split
  .exact⟨(by decide:(0:Int)<=1),(by decide:(1:Int)<=2)⟩
  exact f.kind i hi
 .show ki p ((im k i (s.os.z i)).ls.z j)=false;have a:j<(s.os.z i).ls.n:=by rw[<-Ap k i];exact b
  by_cases c:i<k/\(s.os.z i).k=0
  .have e:=Hx r hi a c;have g:=Dl k i (s.os.z i) j;obtain⟨b1,b2,b3,b4⟩:=er (f.line i hi j a);unfold ki;rw[bw (by omega),bw (by omega),bw (by omega),bw (by omega)]
   rfl
  unfold im;rw[if_neg c];exact f.line i hi j a
 have h:=i8 (f.home i hi);refine qf h.1 ⟨h.2.1.1,?_⟩ h.2.2;show _<(im k _ (s.os.z _)).ls.n;rw[Ap];exact h.2.1.2
theorem Zy(s:St)(k b g:Nat):aw (dh s k) b g=aw s b g:=by
 unfold aw;rw[sw (x:=dh s k) (s:=s) (λj _=>rfl) (λj _=>(Dl k _ _ _).1)];rw[pr (x:=dh s k) (s:=s) (λj _=>rfl)]
 rfl
theorem Zz(r:ar p s)(k:Nat):ar p (dh s k):=by
 refine⟨Xl r k,λg h => ?_,λi hi => ?_⟩
 .obtain⟨a1,l⟩:=ld (r.goods g h);exact ti a1 λb m=>by rw[Zy];exact l b m
 have a:i<s.os.n:=hi;by_cases c:i<k/\(s.os.z i).k=0;rotate_left
 .have e:(dh s k).os.z i=s.os.z i:=if_neg c;have w:=r.orders i a;unfold ch at w ⊢;rw[e];exact w
 have o:=(r.fm.lns i a).1;have e0:=Hx r a (j:=0) (by omega) c;unfold ch;rw[Xxq];constructor
 .have:ax ((dh s k).os.z i).ls.n (λj=>jy (((dh s k).os.z i).ls.z j))=true:=by
   refine dv (k:=0) ?_ ?_
   .show 0<(im k i (s.os.z i)).ls.n;rw[Ap];omega
   show jy ((im k i (s.os.z i)).ls.z 0)=true;have g:=Dl k i (s.os.z i) 0;obtain⟨b1,b2,b3,b4⟩:=er (r.fm.line i a 0 (by omega));unfold jy;rw[Bool.not_eq_true',beq_eq_false_iff_ne];omega
  rw[this];simp
 refine cu λj f => ?_;have d:j<(s.os.z i).ls.n:=by rw[<-Ap k i];exact f
 have e:=Hx r a d c;have g:=Dl k i (s.os.z i) j;show cp (im k i (s.os.z i)).k ((im k i (s.os.z i)).ls.z j) (keptS s.hs.z i j s.hs.n)=false;unfold cp;rw[e.1,if_neg (by decide),if_neg (by decide),Bool.not_eq_false',beq_iff_eq];omega
def qt(s:St)(a b:Nat):Int:=if ((dh s s.os.n).os.z a).k=1 then(((dh s s.os.n).os.z a).ls.z b).n else 0
def yd(s:St)(a:Nat):Nat:=(s.os.z a).ls.n
def ka(p:Pl)(s x:St):Prop:=iq p (-1) (qt s) (yd s) (dh s s.os.n) s.os.n x
def Gx(p:Pl)(s x:St):Prop:=(ag p s=0->ka p s x)/\(¬ag p s=0->Er x)
theorem xd(r:ar p s):QIn p (-1) (qt s) (dh s s.os.n):=by
 have c:=Zz r s.os.n;refine⟨c,λa b d e => ?_,Or.inl rfl⟩;unfold qt;have q:=Bd c d e;by_cases h:((dh s s.os.n).os.z a).k=1
 .rw[if_pos h];exact⟨q.1,Or.inr ⟨h,Int.le_refl _⟩⟩
 rw[if_neg h];exact⟨Int.le_refl _,Or.inl rfl⟩
theorem nd(s:St)(a:Nat):yd s a=((dh s s.os.n).os.z a).ls.n:=(Ap _ _ _).symm
theorem ka.pos(r:ar p s)(h:ka p s x):Pos p (-1) (qt s) (dh s s.os.n) s.os.n 0 x:=iq.pos (xd r) (λa _=>nd s a) nlr h
theorem ka.same(r:ar p s)(h:ka p s x)(k:ka p s y):af x y:=iq.same (xd r) (λa _=>nd s a) nlr k h
theorem Gx.same(a:Gx p s x)(b:Gx p s y):af x y:=by
 by_cases h:ag p s=0
 .exact(a.1 h).same (dp h) (b.1 h)
 exact Di (a.2 h) (b.2 h)
def Jv(p:Pl)(s:St):St:=Vr p (-1) (qt s) (yd s) s.os.n (dh s s.os.n)
theorem Hw(r:ar p s):ka p s (Jv p s):=L4 (xd r) (λa _=>nd s a) nlr
theorem Gx.act(h:Gx p s x):ij (ag p s) (Jv p s) x:=⟨λe=>(h.1 e).same (dp e) (Hw (dp e)),h.2⟩
theorem Zx(r:ar p s)(e:af x s):af (Jv p x) (Jv p s):=by
 have j:=e.right r;have d:=e.os.1;have k:=Ju e s.os.n;have i:dh x x.os.n=dh x s.os.n:=by rw[d]
 have h:iq p (-1) (qt s) (yd s) (dh s s.os.n) s.os.n (Jv p x):=by
  have g:=Hw j;unfold ka at g;rw[i,d] at g;refine iq.base k (λa _=>nd s a) (λa f => ?_) (λa b f l => ?_) nlr g
  .exact(e.os.2 a (by rw[d];exact f)).2.1
  unfold qt;rw[i];have o:=k.os.2 a (by show a<x.os.n;rw[d];exact f);rw[o.1];by_cases c:((dh s s.os.n).os.z a).k=1
  .rw[if_pos c,if_pos c,o.2.2 b (by rw[o.2.1];exact l)]
  rw[if_neg c,if_neg c]
 exact ka.same r h (Hw r)
theorem ar.bound(r:ar p s):s.os.n<=1000/\s.ms.n<=1000/\∀i,i<s.os.n->(s.os.z i).ls.n<=1000 :=
 ⟨Qzx r.fm.os4 (by decide),Qzx r.fm.ms8 (by decide),λi hi=>Qzx (r.fm.lns i hi).2 (by decide)⟩
theorem Xk(r:ar p s):ar p (Jv p s):=((Hw r).pos r).al.r
def cy(z:Nat->Hd):Nat->List Hd
 | 0=>[]
 | k+1=>z k :: cy z k
def ig(z:Nat->Hd)(i:Nat)(d:Int)(j:Nat):Hd:=if j=i then jc (z j) d else z j
def l7(f:Hd->Bool):Nat->Int->(Nat->Hd)->Nat->Hd
 | 0,_,z=>z
 | i+1,m,z=>if f (z i) then l7 f i (m-min m (z i).n) (ig z i (min m (z i).n)) else l7 f i m z
def iz(f:Hd->Bool):Int->List Hd->List Hd
 | _,[]=>[]
 | m,h :: R=>if f h then jc h (min m h.n) :: iz f (m-min m h.n) R else h :: iz f m R
def lr(f:Hd->Bool):Int->List Hd->Int->Int->Int
 | _,[],_,_=>0
 | m,h :: R,o,l=>if f h then(if h.o=o/\h.l=l then min m h.n else 0)+lr f (m-min m h.n) R o l else lr f m R o l
def uu(f:Hd->Bool):Int->List Hd->Int
 | m,[]=>m
 | m,h :: R=>if f h then uu f (m-min m h.n) R else uu f m R
def fi(P:Hd->Bool):List Hd->Int
 | []=>0
 | h :: R=>fi P R+if P h then h.n else 0
def ts(x:Hd):Bool:=x.n==0
def flt(L:List Hd):List Hd:=L.filter (λx => !ts x)
def Jp(f:Hd->Bool):List Hd->List Hd
 | []=>[]
 | h :: R=>if f h then(if h.n=1 then R else jc h 1 :: R) else h :: Jp f R
def kj(f:Hd->Bool)(z:Nat->Hd):Nat->Option Nat
 | 0=>none
 | k+1=>if f (z k) then some k else kj f z k
theorem Jw(z:Nat->Hd):∀n,cy z n=((List.range n).map z).reverse
 | 0=>rfl
 | n+1=>by rw[List.range_succ,List.map_append,List.reverse_append,<-Jw z n];rfl
theorem Mg(z:Nat->Hd):∀n,(cy z n).length=n
 | 0=>rfl
 | n+1=>by show(cy z n).length+1=_;rw[Mg z n]
theorem pk{z z':Nat->Hd}:∀{n:Nat},(∀j,j<n->z j=z' j)->cy z n=cy z' n
 | 0,_=>rfl
 | n+1,h=>by show z n :: cy z n=z' n :: cy z' n;rw[h n (by omega),pk λj a=>h j (by omega)]
theorem Vc{z z':Nat->Hd}:∀{n:Nat},cy z n=cy z' n->∀j,j<n->z j=z' j
 | 0,_,j,hj=>absurd hj (by omega)
 | n+1,h,j,hj=>by
  have a:z n :: cy z n=z' n :: cy z' n:=h;rw[List.cons.injEq] at a;by_cases e:j=n
  .rw[e];exact a.1
  exact Vc a.2 j (by omega)
theorem Ag{z':Nat->Hd}{a:Nat}(h:cy z n=cy z' a):n=a/\∀j,j<n->z j=z' j:=by
 have e:n=a:=by rw[<-Mg z n,h,Mg]
 subst e;exact⟨rfl,Vc h⟩
theorem ye{z:Nat->Hd}:∀{n:Nat} {x:Hd},x∈cy z n->∃j,j<n/\z j=x
 | 0,x,h=>by cases h
 | n+1,x,h=>by
  rcases List.mem_cons.1 h with e|e
  .exact⟨n,by omega,e.symm⟩
  obtain⟨j,a,e⟩:=ye e;exact⟨j,by omega,e⟩
theorem Td{z:Nat->Hd}:∀{n j:Nat},j<n->z j∈cy z n
 | n+1,j,h=>by
  by_cases e:j=n
  .rw[e];exact List.mem_cons_self
  exact List.mem_cons_of_mem _ (Td (by omega))
theorem Dt(f:Hd->Bool):∀(i:Nat) (m:Int) (z:Nat->Hd) (k:Nat),i<=k->l7 f i m z k=z k
 | 0,_,_,_,_=>rfl
 | i+1,m,z,k,h=>by
  show(if f (z i) then l7 f i (m-min m (z i).n) (ig z i (min m (z i).n)) else l7 f i m z) k=z k
  split
  .rw[Dt f i _ _ k (by omega)];exact if_neg (by omega)
  exact Dt f i _ _ k (by omega)
theorem L5(f:Hd->Bool):∀(i:Nat) (m:Int) (z:Nat->Hd),cy (l7 f i m z) i=iz f m (cy z i)
 | 0,_,_=>rfl
 | i+1,m,z=>by
  show l7 f (i+1) m z i :: cy (l7 f (i+1) m z) i=if f (z i) then _ else _;have e:l7 f (i+1) m z=if f (z i) then l7 f i (m-min m (z i).n) (ig z i (min m (z i).n)) else l7 f i m z:=rfl;rw[e];by_cases h:f (z i)=true
  .rw[if_pos h,if_pos h,L5 f i,Dt f i _ _ i nlr];have a:ig z i (min m (z i).n) i=jc (z i) (min m (z i).n):=if_pos rfl;rw[a,pk (z:=ig z i (min m (z i).n)) (z':=z) λj b=>if_neg (by omega)]
  rw[if_neg h,if_neg h,L5 f i,Dt f i _ _ i nlr]
theorem Nw(x:Hd):jc x 0=x:=by unfold jc;rw[Int.sub_zero]
theorem Jc(f:Hd->Bool):∀(i:Nat) (z:Nat->Hd),(∀j,j<i->0<=(z j).n)->l7 f i 0 z=z
 | 0,_,_=>rfl
 | i+1,z,h=>by
  show(if f (z i) then l7 f i (0-min 0 (z i).n) (ig z i (min 0 (z i).n)) else l7 f i 0 z)=z;have a:min 0 (z i).n=0:=Int.min_eq_left (h i (by omega));have e:ig z i 0=z:=by
   funext j
   unfold ig;rw[Nw]
   split<;>rfl
  rw[a,e,Int.sub_zero,Jc f i z λj b=>h j (by omega)]
  split<;>rfl
theorem G9(f:Hd->Bool):∀(i:Nat) (m:Int) (z:Nat->Hd),0<=m->(∀j,j<i->0<=(z j).n)->∀k,((l7 f i m z k).o=(z k).o/\(l7 f i m z k).l=(z k).l/\(l7 f i m z k).b=(z k).b)/\(k<i->0<=(l7 f i m z k).n)/\(l7 f i m z k).n<=(z k).n
 | 0,_,_,_,_,_=>⟨⟨rfl,rfl,rfl⟩,λh=>absurd h (by omega),Int.le_refl _⟩
 | i+1,m,z,hm,hz,k=>by
  have e:l7 f (i+1) m z=if f (z i) then l7 f i (m-min m (z i).n) (ig z i (min m (z i).n)) else l7 f i m z:=rfl;rw[e];have hi:=hz i (by omega);by_cases h:f (z i)=true
  .rw[if_pos h];have d:∀j,¬j=i->ig z i (min m (z i).n) j=z j:=λj c=>if_neg c;have hs:ig z i (min m (z i).n) i=jc (z i) (min m (z i).n):=if_pos rfl;have r:=G9 f i (m-min m (z i).n) (ig z i (min m (z i).n)) (by omega) (λj c=>by rw[d j (by omega)];exact hz j (by omega)) k;by_cases a:k=i
   .subst a;rw[Dt f k _ _ k nlr,hs];refine⟨⟨rfl,rfl,rfl⟩,λ_ => ?_,?_⟩
    .show 0<=(z k).n-min m (z k).n;omega
    show(z k).n-min m (z k).n<=(z k).n;omega
   rw[d k a] at r;exact⟨r.1,λg=>r.2.1 (by omega),r.2.2⟩
  rw[if_neg h];have r:=G9 f i m z hm (λj c=>hz j (by omega)) k;by_cases a:k=i
  .subst a;rw[Dt f k _ _ k nlr];exact⟨⟨rfl,rfl,rfl⟩,λ_=>hi,Int.le_refl _⟩
  exact⟨r.1,λg=>r.2.1 (by omega),r.2.2⟩
def Mr(f:Hd->Bool):Prop:=∀h d,f (jc h d)=f h
def xe(R:List Hd):Prop:=∀h,h∈R->0<=h.n
theorem xe.tail{R:List Hd}(p:xe (h :: R)):xe R:=λx hx=>p x (List.mem_cons_of_mem _ hx)
theorem xe.head{R:List Hd}(p:xe (h :: R)):0<=h.n:=p h List.mem_cons_self
theorem Cg{P:Hd->Bool}:∀{R:List Hd},xe R->0<=fi P R
 | [],_=>Int.le_refl _
 | h :: R,p=>by
  have:=Cg (P:=P) p.tail;have:=p.head;show 0<=fi P R+if P h then h.n else 0
  split<;>omega
theorem vu(P:Hd->Bool):∀(R:List Hd),fi P (flt R)=fi P R
 | []=>rfl
 | h :: R=>by
  have a:=vu P R;unfold flt at a ⊢;rw[List.filter_cons];cases b:ts h
  .rw[if_pos (show(!false)=true from rfl)];show fi P _+_=fi P R+_;rw[a]
  rw[if_neg (by decide),a];have c:h.n=0:=by unfold ts at b;simpa using b
  show _=fi P R+if P h then h.n else 0;rw[c]
  split<;>omega
theorem ur{f:Hd->Bool}(i:Mr f):∀{R:List Hd} {m:Int},xe R->0<=m->fi f (iz f m R)=fi f R-min m (fi f R)/\uu f m R=m-min m (fi f R)
 | [],m,_,hm=>by
  show(0:Int)=0-min m 0/\m=m-min m 0;omega
 | h :: R,m,p,hm=>by
  have j:=p.head;have k:=Cg (P:=f) p.tail;by_cases c:f h=true
  .have e:iz f m (h :: R)=jc h (min m h.n) :: iz f (m-min m h.n) R:=if_pos c;have g:uu f m (h :: R)=uu f (m-min m h.n) R:=if_pos c;have d:fi f (h :: R)=fi f R+h.n:=by show _+(if f h then _ else _)=_;rw[if_pos c]
   have a:=ur i (R:=R) (m:=m-min m h.n) p.tail (by omega);rw[e,g,d,a.2];have b:fi f (jc h (min m h.n) :: iz f (m-min m h.n) R)=fi f (iz f (m-min m h.n) R)+(h.n-min m h.n):=by show _+(if f _ then _ else _)=_;rw[i,if_pos c];rfl
   rw[b,a.1];omega
  have e:iz f m (h :: R)=h :: iz f m R:=if_neg c;have g:uu f m (h :: R)=uu f m R:=if_neg c;have d:fi f (h :: R)=fi f R:=by show _+(if f h then _ else _)=_;rw[if_neg c,Int.add_zero]
  have a:=ur i (R:=R) (m:=m) p.tail hm;have b:fi f (h :: iz f m R)=fi f (iz f m R):=by show _+(if f h then _ else _)=_;rw[if_neg c,Int.add_zero]
  rw[e,g,d,b];exact a
theorem Dn{f P:Hd->Bool}(hd:∀h,P h=true->f h=false)(b:Mr P):∀(R:List Hd) (m:Int),fi P (iz f m R)=fi P R
 | [],_=>rfl
 | h :: R,m=>by
  by_cases c:f h=true
  .have e:iz f m (h :: R)=jc h (min m h.n) :: iz f (m-min m h.n) R:=if_pos c;have a:P h=false:=by
    cases a:P h
    .rfl
    rw[hd h a] at c;cases c
   rw[e];show fi P _+(if P (jc h _) then _ else _)=fi P R+if P h then _ else _;rw[b,a,Dn hd b R]
   rfl
  have e:iz f m (h :: R)=h :: iz f m R:=if_neg c;rw[e];show fi P _+_=fi P R+_;rw[Dn hd b R]
def Bw(o l:Int)(h:Hd):Bool:=(h.o==o)&&(h.l==l)
theorem B0{o l:Int}:Bw o l h=true↔h.o=o/\h.l=l:=by unfold Bw;simp
theorem J4(f:Hd->Bool)(o l:Int):∀(R:List Hd) (m:Int),fi (Bw o l) (iz f m R)=fi (Bw o l) R-lr f m R o l
 | [],_=>rfl
 | h :: R,m=>by
  by_cases c:f h=true
  .have e:iz f m (h :: R)=jc h (min m h.n) :: iz f (m-min m h.n) R:=if_pos c;have a:lr f m (h :: R) o l=(if h.o=o/\h.l=l then min m h.n else 0)+lr f (m-min m h.n) R o l:=if_pos c;rw[e,a];show fi _ _+(if Bw o l (jc h _) then h.n-min m h.n else 0)=fi _ R+(if Bw o l h then h.n else 0)-_;rw[J4 f o l R];have b:Bw o l (jc h (min m h.n))=Bw o l h:=rfl;rw[b];by_cases k:h.o=o/\h.l=l
   .rw[if_pos (B0.2 k),if_pos (B0.2 k),if_pos k];omega
   rw[if_neg (λe=>k (B0.1 e)),if_neg (λe=>k (B0.1 e)),if_neg k];omega
  have e:iz f m (h :: R)=h :: iz f m R:=if_neg c;have a:lr f m (h :: R) o l=lr f m R o l:=if_neg c;rw[e,a];show fi _ _+_=fi _ R+_-_;rw[J4 f o l R];omega
theorem Kd(f:Hd->Bool)(o l:Int):∀{R:List Hd} {m:Int},xe R->0<=m->0<=lr f m R o l
 | [],_,_,_=>Int.le_refl _
 | h :: R,m,p,hm=>by
  have a:=p.head;show 0<=if f h then _ else _
  split
  .have:=Kd f o l (R:=R) (m:=m-min m h.n) p.tail (by omega)
   split<;>omega
  exact Kd f o l p.tail hm
theorem Cu(f:Hd->Bool)(o l:Int):∀{R:List Hd},xe R->lr f 0 R o l=0
 | [],_=>rfl
 | h :: R,p=>by
  have a:min 0 h.n=0:=Int.min_eq_left p.head;show(if f h then(if h.o=o/\h.l=l then min 0 h.n else 0)+lr f (0-min 0 h.n) R o l else lr f 0 R o l)=0;rw[a,Int.sub_zero,Cu f o l p.tail]
  split
  .split<;>rfl
  rfl
theorem Ez(f:Hd->Bool):∀{R:List Hd},xe R->iz f 0 R=R
 | [],_=>rfl
 | h :: R,p=>by
  have a:min 0 h.n=0:=Int.min_eq_left p.head;show(if f h then jc h (min 0 h.n) :: iz f (0-min 0 h.n) R else h :: iz f 0 R)=h :: R;rw[a,Int.sub_zero,Ez f p.tail,Nw]
  split<;>rfl
theorem Bo(f:Hd->Bool):∀{R:List Hd} {m:Int},xe R->0<=m->xe (iz f m R)
 | [],_,_,_=>λx hx=>by cases hx
 | h :: R,m,p,hm=>by
  have a:=p.head;by_cases c:f h=true
  .have e:iz f m (h :: R)=jc h (min m h.n) :: iz f (m-min m h.n) R:=if_pos c;rw[e];intro x hx;rcases List.mem_cons.1 hx with rfl|hx
   .show 0<=h.n-min m h.n;omega
   exact Bo f p.tail (by omega) x hx
  have e:iz f m (h :: R)=h :: iz f m R:=if_neg c;rw[e];intro x hx;rcases List.mem_cons.1 hx with rfl|hx
  .exact a
  exact Bo f p.tail hm x hx
theorem Kf{R:List Hd}(h:∀x,x∈R->1<=x.n):flt R=R:=by
 unfold flt;rw[List.filter_eq_self];intro x hx;have:=h x hx;unfold ts;simp;omega
theorem A5{R:List Hd}(c:1<=h.n):flt (h :: R)=h :: flt R:=by
 unfold flt;rw[List.filter_cons,if_pos];unfold ts;simp;omega
theorem Ih{R:List Hd}(c:h.n=0):flt (h :: R)=flt R:=by
 unfold flt;rw[List.filter_cons,if_neg];unfold ts;simp[c]
theorem Kk{f:Hd->Bool}(j:Mr f):∀{R:List Hd} {m:Int},(∀h,h∈R->1<=h.n)->0<=m->m+1<=fi f R->Jp f (flt (iz f m R))=flt (iz f (m+1) R)/\∃a,(flt (iz f m R)).find? f=some a/\∀o l,lr f (m+1) R o l=lr f m R o l+if a.o=o/\a.l=l then 1 else 0
 | [],m,_,_,hs=>absurd hs (by show ¬m+1<=0;omega)
 | h :: R,m,p,hm,hs=>by
  have t:=p h List.mem_cons_self;have b:∀x,x∈R->1<=x.n:=λx hx=>p x (List.mem_cons_of_mem _ hx);have s:xe R:=λx hx=>by have:=b x hx;omega
  by_cases c:f h=true;rotate_left
  .have e:∀k,iz f k (h :: R)=h :: iz f k R:=λk=>if_neg c;have eq:∀k o l,lr f k (h :: R) o l=lr f k R o l:=λk o l=>if_neg c;have r:fi f (h :: R)=fi f R:=by show _+(if f h then _ else _)=_;rw[if_neg c,Int.add_zero]
   rw[r] at hs;have i:=Kk j (R:=R) (m:=m) b hm hs;rw[e,e,A5 t,A5 t];refine⟨?_,?_⟩
   .show(if f h then _ else h :: Jp f _)=_;rw[if_neg c,i.1]
   obtain⟨a,a1,q⟩:=i.2;refine⟨a,?_,λo l=>by rw[eq,eq,q]⟩;rw[List.find?_cons,show f h=false by simpa using c];exact a1
  have e:∀k,iz f k (h :: R)=jc h (min k h.n) :: iz f (k-min k h.n) R:=λk=>if_pos c;have eq:∀k o l,lr f k (h :: R) o l=(if h.o=o/\h.l=l then min k h.n else 0)+lr f (k-min k h.n) R o l:=λk o l=>if_pos c;have r:fi f (h :: R)=fi f R+h.n:=by show _+(if f h then _ else _)=_;rw[if_pos c]
  rw[r] at hs;by_cases k:m<h.n;rotate_left
  .have d:min m h.n=h.n:=by omega
   have g:min (m+1) h.n=h.n:=by omega
   have i:=Kk j (R:=R) (m:=m-h.n) b (by omega) (by omega);have e0:∀k,min k h.n=h.n->flt (iz f k (h :: R))=flt (iz f (k-h.n) R):=λk v=>by
    rw[e,v,Ih (by show h.n-h.n=0;omega)]
   rw[e0 m d,e0 (m+1) g,show m+1-h.n=m-h.n+1 by omega];refine⟨i.1,?_⟩;obtain⟨a,a1,q⟩:=i.2;refine⟨a,a1,λo l => ?_⟩;rw[eq,eq,d,g,show m+1-h.n=m-h.n+1 by omega,q];omega
  have d:min m h.n=m:=by omega
  have g:min (m+1) h.n=m+1:=by omega
  have e0:flt (iz f m (h :: R))=jc h m :: R:=by
   rw[e,d,Int.sub_self,Ez f s,A5 (by show 1<=h.n-m;omega),Kf b]
  refine⟨?_,jc h m,?_,λo l => ?_⟩
  .rw[e0,e,g,Int.sub_self,Ez f s];show(if f (jc h m) then(if (jc h m).n=1 then R else jc (jc h m) 1 :: R) else _)=_;rw[j,if_pos c];by_cases u:h.n-m=1
   .rw[if_pos (show(jc h m).n=1 from u),Ih (by show h.n-(m+1)=0;omega),Kf b]
   rw[if_neg (show ¬(jc h m).n=1 from u),A5 (by show 1<=h.n-(m+1);omega),Kf b];have:jc (jc h m) 1=jc h (m+1):=by unfold jc;rw[show h.n-m-1=h.n-(m+1) by omega]
   rw[this]
  .rw[e0,List.find?_cons,j,c]
  rw[eq,eq,d,g,Int.sub_self,Int.sub_self];show(if h.o=o/\h.l=l then m+1 else 0)+_=(if h.o=o/\h.l=l then m else 0)+_+if h.o=o/\h.l=l then 1 else 0
  split<;>omega
theorem Qi(f:Hd->Bool)(z:Nat->Hd):∀n,(cy z n).find? f=(kj f z n).map z
 | 0=>rfl
 | n+1=>by
  show(z n :: cy z n).find? f=(if f (z n) then some n else kj f z n).map z;rw[List.find?_cons];cases h:f (z n)
  .rw[if_neg (by decide)];exact Qi f z n
  rw[if_pos rfl];rfl
theorem Dy{f:Hd->Bool}{z:Nat->Hd}:∀{n k:Nat},kj f z n=some k->k<n/\f (z k)=true
 | 0,k,h=>by cases h
 | n+1,k,h=>by
  have a:(if f (z n) then some n else kj f z n)=some k:=h;by_cases c:f (z n)=true
  .rw[if_pos c] at a;cases a;exact⟨by omega,c⟩
  rw[if_neg c] at a;have:=Dy a;exact⟨by omega,this.2⟩
theorem Qj{f:Hd->Bool}{z:Nat->Hd}:∀{n:Nat},kj f z n=none->∀k,k<n->f (z k)=false
 | 0,_,k,h=>absurd h (by omega)
 | n+1,h,k,hk=>by
  have a:(if f (z n) then some n else kj f z n)=none:=h;by_cases c:f (z n)=true
  .rw[if_pos c] at a;cases a
  rw[if_neg c] at a;by_cases e:k=n
  .rw[e];simpa using c
  exact Qj a k (by omega)
theorem S3{f:Hd->Bool}{z:Nat->Hd}:∀{n k:Nat},kj f z n=some k->¬(z k).n=1->cy (ig z k 1) n=Jp f (cy z n)
 | 0,k,h,_=>by cases h
 | n+1,k,h,hn=>by
  have a:(if f (z n) then some n else kj f z n)=some k:=h;show ig z k 1 n :: cy (ig z k 1) n=if f (z n) then(if (z n).n=1 then cy z n else jc (z n) 1 :: cy z n) else z n :: Jp f (cy z n);by_cases c:f (z n)=true
  .rw[if_pos c] at a;cases a;rw[if_pos c,if_neg hn,pk (z:=ig z n 1) (z':=z) λj b=>if_neg (by omega)];have e:ig z n 1 n=jc (z n) 1:=if_pos rfl;rw[e]
  rw[if_neg c] at a ⊢;have:=Dy a;rw[S3 a hn];have e:ig z k 1 n=z n:=if_neg (by omega);rw[e]
theorem S2{f:Hd->Bool}{z:Nat->Hd}:∀{n k:Nat},kj f z (n+1)=some k->(z k).n=1->cy (fw z k) n=Jp f (cy z (n+1))
 | n,k,h,hn=>by
  have a:(if f (z n) then some n else kj f z n)=some k:=h;show cy (fw z k) n=if f (z n) then(if (z n).n=1 then cy z n else jc (z n) 1 :: cy z n) else z n :: Jp f (cy z n);by_cases c:f (z n)=true
  .rw[if_pos c] at a;cases a;rw[if_pos c,if_pos hn];exact pk λj b=>if_pos b
  rw[if_neg c] at a ⊢;have l:=Dy a
  match n,a,l with
  | q+1,a,l =>
   rw[<-S2 a hn];show fw z k q :: cy (fw z k) q=_;have e:fw z k q=z (q+1):=if_neg (by omega);rw[e]
def gx(p:Pl)(s:St)(order:Int):Int:=if ag p s=0 then(if inB order 0 ((s.os.n:Int)-1) then(if (s.os.z order.toNat).k=2 then 6 else 0) else 4) else ag p s
theorem v7{order:Int}(h:¬ag p s=0):gx p s order=ag p s:=by unfold gx;rw[if_neg h]
theorem D5{order:Int}(h:ag p s=0)(a:inB order 0 ((s.os.n:Int)-1)=false):gx p s order=4:=by unfold gx;rw[if_pos h,a];rfl
theorem D4{order:Int}(h:ag p s=0)(b:inB order 0 ((s.os.n:Int)-1)=true)(a:(s.os.z order.toNat).k=2):gx p s order=6:=by unfold gx;rw[if_pos h,b,if_pos a];rfl
theorem Na{order:Int}(h:ag p s=0)(b:inB order 0 ((s.os.n:Int)-1)=true)(a:¬(s.os.z order.toNat).k=2):gx p s order=0:=by unfold gx;rw[if_pos h,b,if_neg a];rfl
def ed(s:St)(o:Nat):St:=fj (dj (withHolds s (dz s.hs (λx=>x.o==(o:Int)))) o 2) o (s.os.z o).ls.n
theorem sd(s:St)(o i:Nat):(ed s o).os.z i=if i=o then ⟨2,yv (s.os.z i).ls (s.os.z o).ls.n⟩ else s.os.z i:=by
 show(if i=o then(⟨(if i=o then(⟨2,(s.os.z i).ls⟩:Od) else s.os.z i).k,yv (if i=o then(⟨2,(s.os.z i).ls⟩:Od) else s.os.z i).ls (s.os.z o).ls.n⟩:Od) else(if i=o then(⟨2,(s.os.z i).ls⟩:Od) else s.os.z i))=_;by_cases h:i=o
 .rw[if_pos h,if_pos h,if_pos h]
 rw[if_neg h,if_neg h,if_neg h]
theorem Fu(h:af x s)(f:o<x.os.n):af (ed x o) (ed s o):=by
 have g:=h.os.2 o f;have d:=V9 h.hs.1 h.hs.2 (λy=>y.o==(o:Int));refine⟨h.on,⟨h.os.1,λi hi => ?_⟩,⟨d.1,λj _=>by show(dz x.hs _).z j=(dz s.hs _).z j;rw[d.2]⟩,h.ms,h.si,h.so,h.sf⟩;have e:=h.os.2 i hi;rw[sd,sd];by_cases a:i=o
 .subst a;rw[if_pos rfl,if_pos rfl];refine⟨rfl,e.2.1,λj c => ?_⟩;show(if j<(x.os.z i).ls.n then xi ((x.os.z i).ls.z j) else(x.os.z i).ls.z j)=if j<(s.os.z i).ls.n then xi ((s.os.z i).ls.z j) else(s.os.z i).ls.z j;have b:j<(x.os.z i).ls.n:=c;rw[if_pos b,if_pos (by omega),e.2.2 j b]
 rw[if_neg a,if_neg a];exact e
theorem Vj(p:Pl)(s:St)(order:Int)(w:World)(hp:p.At w)(hs:s.At w):
  Calls prog 44 #[p.val,s.val,.int .i64 order] w λe G=>∃x:St,e = .returned (.tuple #[x.val,.int .i64 (gx p s order)])/\x.At G/\ij (gx p s order) (ed s order.toNat) x/\(gx p s order=0->ai w.heap.size G x)/\Below w.heap.size w G:=by
 obtain⟨K,hW,ad,X0,K0,Z0⟩:∃W,((((w.alloc (.cells #[.slice p.ab p.nb p.cb,.slice p.sa p.ns p.cs] 25)).alloc (.cells s.cells 31)).alloc (.cells #[.int .i64 order] 3)).alloc (.cells #[.slice .none 0 0,.slice .none 0 0,.slice .none 0 0,.slice .none 0 0,.slice .none 0 0,.slice .none 0 0,.slice .none 0 0] 31))=W/\Below w.heap.size w W/\lx W w.heap.size (w.heap.size+1) p s/\Blk W (w.heap.size+2) 3 1 (λ_ => .int .i64 order)/\Blk W (w.heap.size+3) 31 7 (λ_ => .slice .none 0 0):=
  ⟨_,rfl,((ix _ _ _).alloc (by simp;omega) _).alloc (by simp;omega) _,((nt w p s _ _).below (brf.alloc nlr _)).below (brf.alloc nlr _),((Blk.mk' (cur:=#[.int .i64 order]) (by simp) rfl).congr (λj M=>by match j,M with|0,_=>rfl)).alloc _,(Blk.mk' (cur:=#[.slice .none 0 0,.slice .none 0 0,.slice .none 0 0,.slice .none 0 0,.slice .none 0 0,.slice .none 0 0,.slice .none 0 0]) (by simp) rfl).congr (λj M=>by match j,M with|0,_=>rfl|1,_=>rfl|2,_=>rfl|3,_=>rfl|4,_=>rfl|5,_=>rfl|6,_=>rfl)⟩
 have HC:Hid (∀Q,Below K.heap.size K Q->lx Q w.heap.size (w.heap.size+1) p s/\p.At Q/\s.At Q/\Below w.heap.size w Q/\Blk Q (w.heap.size+3) 31 7 (λ_ => .slice .none 0 0)/\Blk Q (w.heap.size+2) 3 1 (λ_ => .int .i64 order)):=λQ h=>⟨X0.below h,(hp.below ad).below h,(hs.below ad).below h,ad.trans (h.mono ad.size),Z0.below h,K0.below h⟩;have HW:Hid ((((w.alloc (.cells #[.slice p.ab p.nb p.cb,.slice p.sa p.ns p.cs] 25)).alloc (.cells #[.slice s.on.a s.on.n s.on.c,.slice s.os.a s.os.n s.os.c,.slice s.hs.a s.hs.n s.hs.c,.slice s.ms.a s.ms.n s.ms.c,.slice s.si.a s.si.n s.si.c,.slice s.so.a s.so.n s.so.c,.slice s.sf.a s.sf.n s.sf.c] 31)).alloc (.cells #[.int .i64 order] 3)).alloc (.cells #[.slice .none 0 0,.slice .none 0 0,.slice .none 0 0,.slice .none 0 0,.slice .none 0 0,.slice .none 0 0,.slice .none 0 0] 31)=K):=hW;have eg:=Z0.lt;have di:=hs.os.le;have a5:=hs.os.cap;have cy:=a5;have U:s.os.n<=maxLen:=Qzx di a5;unfold maxLen at cy;clear hW X0 Z0 K0 hp hs;unfold Pl.val St.val;go_enter func44,ntmps44;go_wp2_with fail;rw[HW.out];obtain⟨X,F,A,B,r,H⟩:=HC.out K brf;refine(lg p s K F A).mono ?_;rintro e u ⟨rfl,hB⟩;clear X F A B r H HW;obtain⟨⟨⟨l1,d0,d1⟩,l2,c0,c1,c2,c3,c4,c5,c6⟩,F,A,B,r,H⟩:=HC.out u hB;have b0:=H.lt;have b1:u.cell? ⟨w.heap.size+2,0,none⟩=some (.int .i64 order):=H.k 0;by_cases P:ag p s=0;rotate_left
 .have J:Hid (gx p s order=ag p s):=v7 P;have cg:Hid (¬gx p s order=0):=by show ¬_;rw[v7 P];exact P
  have g0:(ag p s !=0)=true:=by simpa using P
  clear P;clear F A H;obtain⟨zl,a7,a9,ax,zc1,ba,zc2,bh,zc3,a8,zc4,am,zc5,ap,ay⟩:=z7 r;go_wp2_with fail;exact ip results44 r B (by omega) J.out (λh=>cg.out (J.out.trans h)) rfl rfl rfl
 have H0:=hid P;have HF:Hid (cx p s):=(dp P).fm;rw[P];clear P;cases k1:inB order 0 ((s.os.n:Int)-1)
 .have J:Hid (gx p s order=4):=D5 H0.out k1;clear F A H;obtain⟨zl,a7,a9,ax,zc1,ba,zc2,bh,zc3,a8,zc4,am,zc5,ap,ay⟩:=z7 r;go_wp2_with(go_at_call 71;refine ah (dm _ _ _ U) ?_);exact ip results44 r B (by omega) J.out (by decide) rfl rfl rfl
 have ct:=au k1;obtain⟨o,rfl⟩:=Qzz ct.1;have ho:o<s.os.n:=by omega
 have q0:(0:Int)<=(o:Int):=by omega
 obtain⟨bo,oo,a1,cp,z0,z1,cn⟩:=A.os.ods o ho;have bu:=hid a1;rw[a1] at c1;clear a1 z1 cn;by_cases k2:(s.os.z o).k=2
 .have J:Hid (gx p s (o:Int)=6):=D4 H0.out k1 k2;rw[k2] at z0;clear k2;clear F A H;obtain⟨zl,a7,a9,ax,zc1,ba,zc2,bh,zc3,a8,zc4,am,zc5,ap,ay⟩:=z7 r;go_wp2_with(go_at_call 71;refine ah (dm _ _ _ U) ?_);exact ip results44 r B (by omega) J.out (by decide) rfl rfl rfl
 have J:Hid (gx p s (o:Int)=0):=Na H0.out k1 k2;have g2:((s.os.z o).k==2)=false:=by simpa using k2
 clear k2
 generalize (s.os.z o).k=KK at *
 have br:Hid (Calls prog 90 #[s.val] u λe G=>∃s':St,e = .returned s'.val/\af s' s/\ai u.heap.size G s'/\Below u.heap.size u G):=ov p s u A HF.out;have an:=hid H;clear F A B r H;go_wp2_with(go_at_call 71;refine ah (dm _ _ _ U) ?_);rw[<-bu.out];refine Calls.mono br.out ?_;rintro e i ⟨d,rfl,L,be,aj⟩;clear br l1 d0 d1 l2 c0 c1 c2 c3 c4 c5 c6 z0 cp k1 g2 b0 b1 bu;obtain⟨W5,bv,Y,K5⟩:=ab7 i d;have aw:=hid bv;have E:=aj.trans (Y.mono aj.size);have bw:=hB.trans (E.mono hB.size);have aa:=ai.below be Y;have ac:o<d.os.n:=by rw[L.os.1];exact ho
 have bn:=hid L;have s2:W5.cell? ⟨i.heap.size,2,none⟩=some (.slice d.hs.a d.hs.n d.hs.c):=K5.k 2;have s1:=K5.lt;have HD:Hid (Calls prog 97 #[.slice d.hs.a d.hs.n d.hs.c,.func (.func 98) #[] #[.pointer (some ⟨w.heap.size+1+1,0,none⟩)]] W5 λe G=>e = .returned (.slice (dz d.hs (λx=>x.o==(o:Int))).a (dz d.hs (λx=>x.o==(o:Int))).n (dz d.hs (λx=>x.o==(o:Int))).c)/\ai u.heap.size G (withHolds d (dz d.hs (λx=>x.o==(o:Int))))/\Below u.heap.size W5 G/\(∀q t m g,t≠61->Blk W5 q t m g->Blk G q t m g)):=
  aam 98 #[.pointer (some ⟨w.heap.size+1+1,0,none⟩)] (λx=>x.o==(o:Int)) u.heap.size d W5 E.size aa (enters_of func98 (by kernel_rfl) rfl) (λx wz r=>by
   have bf:=an.out.lt;exact Tu (w.heap.size+1+1) x o wz (Xzx bf (Qzx E.size r.size)) ((r.cell (p:=⟨w.heap.size+2,0,none⟩) bf).trans ((E.cell (p:=⟨w.heap.size+2,0,none⟩) bf).trans (an.out.k 0))))
 have bm:=qa4 bw hB.size aj.size E.size;have b2:=hid K5;rw[<-aw.out] at s1 s2;clear bv be aa K5 aj Y E bw L hB;simp only[St.val];go_wp2_with fail;rw[aw.out];clear s1 s2 aw;refine HD.out.mono ?_;rintro e S ⟨rfl,bg,a0,ae⟩;have cd:Hid (∀h:Hs,h=dz d.hs (λx=>x.o==(o:Int))->h.a=d.hs.a/\h.c=d.hs.c):=λh e=>by rw[e];exact⟨rfl,rfl⟩
 obtain⟨f,ar⟩:∃f,dz d.hs (λx=>x.o==(o:Int))=f:=⟨_,rfl⟩;have bz:=hid ar;rw[ar] at bg ⊢;clear HD ar cd;obtain⟨e1,e2,e3,e4⟩:=bm.out;have K6:=ae _ _ _ _ (by decide) b2.out;have bd:=e1.trans (a0.mono e2);have n1:=K6.lt;have n2:=K6.frozen 2;have n3:=K6.k 2;have T:=bg.box K6 2 (.slice f.a f.n f.c);have K7:Blk (S.setCell ⟨i.heap.size,2,none⟩ (.slice f.a f.n f.c)) i.heap.size 31 7 (λj=>(withHolds d f).cells.getD j default):=(K6.set 2 (.slice f.a f.n f.c)).congr (λj M=>by match j,M with|0,_=>rfl|1,_=>rfl|2,_=>rfl|3,_=>rfl|4,_=>rfl|5,_=>rfl|6,_=>rfl);have V:=bd.setCell (p:=⟨i.heap.size,2,none⟩) (by show K.heap.size<=i.heap.size;omega) (.slice f.a f.n f.c);have dt:S.heap.size<=(S.setCell ⟨i.heap.size,2,none⟩ (.slice f.a f.n f.c)).heap.size:=by simp
 have a6:=a0.size;obtain⟨D,g1,g2,g3⟩:=T.os.list (by show 0<d.os.n;omega);have bs:d.os.a=some ⟨D,0,none⟩:=g1;have dl:¬D=i.heap.size:=Blk.ne2 g3 K7 (by decide);have b7:¬i.heap.size=D:=λe=>dl e.symm;have u1:=(K7.k 1);have bp:(S.setCell ⟨i.heap.size,2,none⟩ (.slice f.a f.n f.c)).cell? ⟨i.heap.size,1,none⟩=some (.slice d.os.a d.os.n d.os.c):=u1;rw[bs] at bp;have u2:=g3.lt;have u3:=g3.frozen (o*2);have u4:=g3.cell (j:=o*2) (by show o*2<d.os.n*2;omega)
 generalize (jq (withHolds d f).os.n (withHolds d f).os.z).getD (o*2) default=VV at u4
 have k8:=T.kind (o:=o) ac g1 2;have K8:=K7.other (a:=⟨D,o*2,none⟩) b7 (.int .i64 2);have bb:=V.setCell (p:=⟨D,o*2,none⟩) (by show K.heap.size<=D;omega) (.int .i64 2);obtain⟨⟨-,-⟩,-,-,cl,-,ao⟩:=HC.out _ V;have u5:=ao.k 0;have u6:=ao.lt;have dk:¬w.heap.size+2=D:=by have:=an.out.lt;omega
 have d7:¬D=w.heap.size+2:=λe=>dk e.symm;have dr:o<(dj (withHolds d f) o 2).os.n:=ac;have dh:Hid (∀j,j<((dj (withHolds d f) o 2).os.z o).ls.n->(0<=(((dj (withHolds d f) o 2).os.z o).ls.z j).l/\(((dj (withHolds d f) o 2).os.z o).ls.z j).l<=200)/\0<=(((dj (withHolds d f) o 2).os.z o).ls.z j).b/\(((dj (withHolds d f) o 2).os.z o).ls.z j).b<=200):=by
  show ∀j,j<((dj (withHolds d f) o 2).os.z o).ls.n->_;rw[vo];intro j M;have e:=bn.out.os.2 o ac;have ds:j<(d.os.z o).ls.n:=M;have hl:=er (HF.out.line o ho j (by omega));show(0<=((d.os.z o).ls.z j).l/\((d.os.z o).ls.z j).l<=200)/\0<=((d.os.z o).ls.z j).b/\((d.os.z o).ls.z j).b<=200;rw[e.2.2 j ds];omega
 have H8:Hid (ai u.heap.size ((S.setCell ⟨i.heap.size,2,none⟩ (.slice f.a f.n f.c)).setCell ⟨D,o*2,none⟩ (.int .i64 2)) (dj (withHolds d f) o 2)/\Blk ((S.setCell ⟨i.heap.size,2,none⟩ (.slice f.a f.n f.c)).setCell ⟨D,o*2,none⟩ (.int .i64 2)) i.heap.size 31 7 (λj=>(withHolds d f).cells.getD j default)/\Below K.heap.size K ((S.setCell ⟨i.heap.size,2,none⟩ (.slice f.a f.n f.c)).setCell ⟨D,o*2,none⟩ (.int .i64 2))/\u.heap.size<=((S.setCell ⟨i.heap.size,2,none⟩ (.slice f.a f.n f.c)).setCell ⟨D,o*2,none⟩ (.int .i64 2)).heap.size):=⟨k8,K8,bb,by simp;omega⟩;have c8:=hid g1;have v1:d.os.n<=d.os.c:=T.os.le;have v2:d.os.c<=maxLen:=T.os.cap;unfold maxLen at v2;clear bg a0 ae K6 bd T K7 V g1 bs g3 u1 k8 K8 bb cl ao b2;go_wp2_with fail;refine(Sw (dj (withHolds d f) o 2) o u.heap.size D _ H8.out.2.2.2 H8.out.1 dr c8.out dh.out).mono ?_;rintro e w9 ⟨rfl,bx,bt,b3⟩;have K9:=b3 _ _ _ _ (by decide) (by decide) H8.out.2.1;have ca:=H8.out.2.2.1.trans (bt.mono e2);clear n1 n2 n3 dt bp u2 u3 u4 u5 u6 H8;have bq:=hid bx;have KC:Blk w9 i.heap.size 31 7 (λj=>(ed d o).cells.getD j default):=K9.congr (λj M=>by unfold ed;rw[bz.out];match j,M with|0,_=>rfl|1,_=>rfl|2,_=>rfl|3,_=>rfl|4,_=>rfl|5,_=>rfl|6,_=>rfl);have cq:Hid (ai u.heap.size w9 (ed d o)):=by
  have h:=bq.out;rw[vo] at h;show ai u.heap.size w9 (ed d o);unfold ed;rw[bz.out];exact h
 have du:Hid (af (ed d o) (ed s o)):=Fu bn.out ac;clear bx bt b3 K9 bq
 generalize ed d o=y at *
 obtain⟨m1,p0,p1,p2,p3,p4,p5,p6⟩:=Boxed.of KC;obtain⟨-,-,-,B,r,-⟩:=HC.out w9 ca;have HZ:=qa2 B r;obtain⟨zl,a7,a9,ax,zc1,ba,zc2,bh,zc3,a8,zc4,am,zc5,ap,ay⟩:=z7 r;have dx:=(HC.out _ bm.out.1).2.2.2.1.size;clear KC B r;go_wp2_with fail;have KZ:=s7b HZ.out.2 y;have b4:=s7w (b:=w.heap.size+3) HZ.out.1 (by omega) y;have a2:=s7o cq.out HZ.out.2 y;unfold set7 at KZ b4 a2;obtain⟨dv,de,ck,cu,ce,dn,dw⟩:=df KZ;refine Xzq (v := .tuple #[y.val,.int .i64 0]) (by simp[results,results44,go_sem,St.val,dv,de,ck,cu,ce,dn,dw]) rfl ?_;refine⟨y,by rw[J.out];rfl,a2.at,⟨λ_=>du.out,λh=>absurd J.out h⟩,λ_=>a2.mono (by omega),b4⟩
def withMoves(s:St)(h:Hs):St:=⟨s.on,s.os,s.hs,h,s.si,s.so,s.sf⟩
theorem kq.grew{B:Nat}{s:Os}(h:kq A w s)(a:qn B e w d)(f:57≠e)(k:59≠e):kq A d s:=by
 refine⟨h.le,h.cap,λl => ?_,λi hi => ?_,h.apart,h.room.grew a f⟩
 .obtain⟨q,a1,b,c⟩:=h.list l;exact⟨q,a1,b,a.blk c f⟩
 obtain⟨C,a1,b,c,g,j⟩:=h.lines i hi;exact⟨C,a1,b,c,g,a.blk j k⟩
theorem ai.moreH{b:World}{h:Hs}(k:ai A w s)(a:qn A 61 w b)(c:cw A 61 b h):ai A b (Go.Proofs.YtbcacebifpagpagGreat.withHolds s h):=by
 refine⟨?_,λi hi=>(k.rows i hi).grew a (by decide),k.rapart,k.os.grew a (by decide) (by decide),c,k.ms.grew a (by decide),k.msr.grew a (by decide),k.si.grew a (by decide),k.so.grew a (by decide),k.sf.grew a (by decide),k.aio,k.aif,k.aof,k.ari⟩;obtain⟨q,f,a1,e,g,d⟩:=k.on;exact⟨q,f,a1,e,g,a.blk d (by decide)⟩
theorem ai.moreM{h:Hs}(k:ai A w s)(b:qn A 63 w d)(e:cw A 63 d h)(m:fu A d 63 4 h.a h.c):ai A d (withMoves s h):=by
 refine⟨?_,λi hi=>(k.rows i hi).grew b (by decide),k.rapart,k.os.grew b (by decide) (by decide),k.hs.grew b (by decide),e,m,k.si.grew b (by decide),k.so.grew b (by decide),k.sf.grew b (by decide),k.aio,k.aif,k.aof,k.ari⟩;obtain⟨q,j,a1,g,l,f⟩:=k.on;exact⟨q,j,a1,g,l,b.blk f (by decide)⟩
def ofL(L:List Hd)(j:Nat):Hd:=L.getD j hd0
theorem Wg(L:List Hd)(x:Hd):ay (L++[x]).length (ofL (L++[x]))=ay L.length (ofL L)++dc x:=by
 rw[List.length_append,List.length_singleton,tw];have a:ofL (L++[x]) L.length=x:=by simp[ofL,List.getD]
 rw[a]
 congr 1
 exact ot λj b=>by simp[ofL,List.getD,List.getElem?_append_left b]
def pj(h:Hs)(bad:Hd->Bool)(k:Nat):List Hd:=((iw h).take k).filter (λx => !bad x)
theorem Ny{h:Hs}{k:Nat}(b:k<h.n):(iw h).take (k+1)=(iw h).take k++[h.z k]:=by
 have a:k<(iw h).length:=by rw[nx];exact b
 rw[List.take_add_one,List.getElem?_eq_getElem a];simp[iw]
theorem Zc{h:Hs}{bad:Hd->Bool}{k:Nat}(b:k<h.n)(a:bad (h.z k)=false):pj h bad (k+1)=pj h bad k++[h.z k]:=by
 unfold pj;rw[Ny b,List.filter_append];simp[a]
theorem Wl{h:Hs}{bad:Hd->Bool}{k:Nat}(b:k<h.n)(a:bad (h.z k)=true):pj h bad (k+1)=pj h bad k:=by
 unfold pj;rw[Ny b,List.filter_append];simp[a]
theorem Zb(h:Hs)(bad:Hd->Bool):pj h bad h.n=(iw h).filter (λx => !bad x):=by
 unfold pj;rw[List.take_of_length_le (by rw[nx];exact Nat.le_refl _)]
theorem Zd(h:Hs)(bad:Hd->Bool)(k:Nat):(pj h bad k).length<=h.n:=by
 have a:=List.length_filter_le (λx => !bad x) ((iw h).take k);have b:=List.length_take_le' k (iw h);rw[nx] at b;unfold pj;omega
theorem V8(h:Hs)(bad:Hd->Bool):(dz h bad).n=(pj h bad h.n).length/\(dz h bad).z=ofL (pj h bad h.n):=by
 rw[Zb];exact⟨rfl,rfl⟩
def setOut(s:St)(g:Nat)(x:Int):St:=⟨s.on,s.os,s.hs,s.ms,s.si,lp s.so g x,s.sf⟩
def bu(s:St)(o l:Nat):Nat:=((s.os.z o).ls.z l).o.toNat
def dw(s:St)(o l b:Int):Int:=keptV s.hs.n s.hs.z o l b
def jd(p:Pl)(s:St)(order line bin n:Int):Int :=
 if ag p s=0 then(if dw s order line bin=0 then 4 else if inB n 0 (dw s order line bin) then(if 1048576<s.so.z (bu s order.toNat line.toNat)+n then 2 else 0) else 3) else ag p s
section
variable {p:Pl} {s:St} {order line bin n:Int}
theorem zz(h:¬ag p s=0):jd p s order line bin n=ag p s:=by unfold jd;rw[if_neg h]
theorem Hr(h:ag p s=0)(a:dw s order line bin=0):jd p s order line bin n=4:=by unfold jd;rw[if_pos h,if_pos a]
theorem F2(h:ag p s=0)(b:¬dw s order line bin=0)(a:inB n 0 (dw s order line bin)=false):jd p s order line bin n=3:=by unfold jd;rw[if_pos h,if_neg b,a];rfl
theorem Hq(h:ag p s=0)(c:¬dw s order line bin=0)(b:inB n 0 (dw s order line bin)=true)(a:1048576<s.so.z (bu s order.toNat line.toNat)+n):jd p s order line bin n=2:=by unfold jd;rw[if_pos h,if_neg c,b,if_pos a];rfl
theorem S6(h:ag p s=0)(c:¬dw s order line bin=0)(b:inB n 0 (dw s order line bin)=true)(a:¬1048576<s.so.z (bu s order.toNat line.toNat)+n):jd p s order line bin n=0:=by unfold jd;rw[if_pos h,if_neg c,b,if_neg a];rfl
end
structure oy(p:Pl)(s:St)(o l b:Nat):Prop where
 r:ar p s
 kp:¬dw s o l b=0
 on:o<s.os.n
 ln:l<(s.os.z o).ls.n
 bn:b<p.nb
theorem Nr{order line bin:Int}(r:ar p s)(h:¬dw s order line bin=0):∃o l b:Nat,order=o/\line=l/\bin=b/\oy p s o l b:=by
 obtain⟨e,d,-⟩:=tn r.fm.hold h;obtain⟨f,i,g⟩:=fk d;obtain⟨a1,a,c⟩:=i8 (r.fm.home _ e);rw[f] at a1 a;rw[i] at a;rw[g] at c;obtain⟨o,rfl⟩:=Qzz a1.1;obtain⟨l,rfl⟩:=Qzz a.1;obtain⟨b,rfl⟩:=Qzz c.1;exact⟨o,l,b,rfl,rfl,rfl,r,h,a1.2,a.2,by omega⟩
section
variable {p:Pl} {s:St} {o l b:Nat}
theorem oy.bd(h:oy p s o l b):1<=dw s o l b/\dw s o l b<=200/\dw s o l b<=keptS s.hs.z o l s.hs.n:=by
 obtain⟨a,c,d⟩:=tn h.r.fm.hold h.kp;have e:=(o6 h.r.fm.hold a c).1;have f:=(cz (cd h.r.fm.hold _ a)).2.2.2;have nb6:=h.r.fm.sh.pl.nb6;have b6:=h.bn;have k:=O9 h.r.fm.hold (o:Int) (l:Int) (b:=b) (by omega);unfold dw;omega
theorem oy.kind(h:oy p s o l b):(s.os.z o).k=1:=by
 have w:=h.r.orders o h.on;unfold ch at w;rw[Xxq] at w;have a:cp (s.os.z o).k ((s.os.z o).ls.z l) (keptS s.hs.z o l s.hs.n)=false:=dk w.2 l h.ln;have bd:=h.bd;have kd:=h.r.fm.kind o h.on;unfold cp at a;by_cases c:(s.os.z o).k=0
 .rw[if_pos c] at a;simp only[Xxq,Bool.not_eq_false',beq_iff_eq] at a;omega
 rw[if_neg c] at a;by_cases d:(s.os.z o).k=2
 .rw[if_pos d] at a;simp only[Xxq,Bool.not_eq_false',beq_iff_eq] at a;omega
 omega
theorem oy.good(h:oy p s o l b):((s.os.z o).ls.z l).o=(bu s o l:Int)/\bu s o l<p.ns:=by
 have g:=(er (h.r.fm.line o h.on l h.ln)).1;unfold bu;omega
theorem oy.sum(h:oy p s o l b):((s.os.z o).ls.z l).b+((s.os.z o).ls.z l).n+keptS s.hs.z o l s.hs.n=((s.os.z o).ls.z l).l/\((s.os.z o).ls.z l).l<=200/\0<=((s.os.z o).ls.z l).b:=L9 h.r h.on h.ln h.kind
theorem acq(f:cx p s)(e:o<s.os.n)(c:l<(s.os.z o).ls.n)(b:Int):keptV s.hs.n s.hs.z o l b<=ca s b ((s.os.z o).ls.z l).o s.hs.n:=by
 rw[ua b _ _ f.home f.hold];unfold B9;have a:∀i j,0<=lf s b ((s.os.z o).ls.z l).o s.hs.n i j:=λi j=>by
  unfold lf;have:=(Ed (λj d=>(cz (cd f.hold j d)).2.2.2) (i:Int) (j:Int) b).1
  split<;>omega
 have m:lf s b ((s.os.z o).ls.z l).o s.hs.n o l=keptV s.hs.n s.hs.z o l b:=if_pos rfl;have h:=H7 (z:=λj=>lf s b ((s.os.z o).ls.z l).o s.hs.n o j) c (λj _=>a o j);have g:=H7 (z:=λi=>cv (λj=>lf s b ((s.os.z o).ls.z l).o s.hs.n i j) (s.os.z i).ls.n) e (λi _=>by
  have:∀k,0<=cv (λj=>lf s b ((s.os.z o).ls.z l).o s.hs.n i j) k:=λk=>by
   induction k with
   | zero=>exact Int.le_refl _
   | succ k ih=>simp only[cv];have:=a i k;omega
  exact this _)
 omega
theorem oy.there(h:oy p s o l b):dw s o l b<=(s.on.r b).z (bu s o l)/\(s.on.r b).z (bu s o l)<=200/\dw s o l b+aw s b (bu s o l)<=(s.on.r b).z (bu s o l):=by
 have g:=h.good;have a:=(ld (h.r.goods _ g.2)).2 b h.bn;have k:=acq h.r.fm h.on h.ln b;rw[g.1] at k;have c:=(jx (s:=s) (b:=b) (g:=(bu s o l:Int)) (n:=s.ms.n) h.r.fm.moveN).1;have d:=h.r.fm.sh.num b (by rw[h.r.fm.sh.n];exact h.bn) (bu s o l) g.2;unfold aw at a ⊢;unfold dw;omega
end
def mi(h:Hs)(o l b:Int):Hs:=⟨h.a,h.n-1,h.c,fw h.z (jp h.n h.z o l b)⟩
def cn(s:St)(o l b:Nat)(n:Int):St:=setLine (setLine (setOut (setOn (withHolds s (mi s.hs o l b)) b (bu s o l) ((s.on.r b).z (bu s o l)-n)) (bu s o l) (s.so.z (bu s o l)+n)) o l 2 (((s.os.z o).ls.z l).b+n)) o l 3 (((s.os.z o).ls.z l).n+(dw s o l b-n))
def ko(s:St)(o:Nat):Bool := !ax (s.os.z o).ls.n (λj=>jy ((s.os.z o).ls.z j))
def sj(p:Pl)(s:St)(o l b:Nat)(n:Int):St:=if ko (cn s o l b n) o then dj (cn s o l b n) o 2 else Xt p b (cn s o l b n) o l (dw s o l b-n)
section
variable {p:Pl} {s:St} {o l b:Nat} {n:Int}
theorem ue(s:St)(o l b:Nat)(n:Int)(i j:Nat):((cn s o l b n).os.z i).ls.z j=if i=o/\j=l then ⟨((s.os.z o).ls.z l).o,((s.os.z o).ls.z l).l,((s.os.z o).ls.z l).b+n,((s.os.z o).ls.z l).n+(dw s o l b-n)⟩ else(s.os.z i).ls.z j:=by
 unfold cn;rw[pn,pn];by_cases h:i=o/\j=l
 .rw[if_pos h,if_pos h,if_pos h];obtain⟨rfl,rfl⟩:=h
  rfl
 rw[if_neg h,if_neg h,if_neg h]
 rfl
theorem ny(s:St)(o l b:Nat)(n:Int)(i:Nat):((cn s o l b n).os.z i).k=(s.os.z i).k/\((cn s o l b n).os.z i).ls.n=(s.os.z i).ls.n:=by
 unfold cn;rw[sy,sy,(dr i).1,(dr i).1];exact⟨rfl,rfl⟩
theorem Eh(s:St)(o l b:Nat)(n:Int)(i:Nat):((cn s o l b n).on.r i).n=(s.on.r i).n/\∀j,((cn s o l b n).on.r i).z j=if i=b/\j=bu s o l then(s.on.r i).z j-n else(s.on.r i).z j:=by
 show(if i=b then lp (s.on.r i) (bu s o l) _ else s.on.r i).n=_/\∀j,(if i=b then lp (s.on.r i) (bu s o l) _ else s.on.r i).z j=_;by_cases h:i=b
 .subst h;rw[if_pos rfl];refine⟨rfl,λj => ?_⟩;show(if j=bu s o l then _ else(s.on.r i).z j)=_;by_cases a:j=bu s o l
  .rw[if_pos a,if_pos ⟨rfl,a⟩,a]
  rw[if_neg a,if_neg (λe=>a e.2)]
 rw[if_neg h];exact⟨rfl,λj=>by rw[if_neg (λe=>h e.1)]⟩
theorem oy.drop(h:oy p s o l b):ax (mi s.hs o l b).n (db (mi s.hs o l b).z)=false/\∀x y z:Int,keptV (mi s.hs o l b).n (mi s.hs o l b).z x y z=if x=o/\y=l/\z=b then 0 else keptV s.hs.n s.hs.z x y z:=by
 obtain⟨f,a,i⟩:=tn h.r.fm.hold h.kp;have e:=(o6 h.r.fm.hold f a).2;have g:jp s.hs.n s.hs.z o l b<s.hs.n:=by rw[e];exact f
 refine⟨Nh h.r.fm.hold g,λx y z => ?_⟩;have k:=Yy h.r.fm.hold g x y z;show keptV (s.hs.n-1) (fw s.hs.z (jp s.hs.n s.hs.z o l b)) x y z=_;rw[k];have m:=fk a;by_cases c:x=o/\y=l/\z=b
 .have:bp (s.hs.z (jp s.hs.n s.hs.z o l b)) x y z=true:=by rw[c.1,c.2.1,c.2.2];exact a
  rw[this,if_pos c]
  rfl
 rw[if_neg c];cases d:bp (s.hs.z (jp s.hs.n s.hs.z o l b)) x y z
 .rfl
 exact absurd ⟨(fk d).1.symm.trans m.1,(fk d).2.1.symm.trans m.2.1,(fk d).2.2.symm.trans m.2.2⟩ c
theorem oy.keptS(h:oy p s o l b)(n:Int)(x y:Int):Go.Proofs.YtbcacebifpagpagGreat.keptS (cn s o l b n).hs.z x y (cn s o l b n).hs.n=Go.Proofs.YtbcacebifpagpagGreat.keptS s.hs.z x y s.hs.n-if x=o/\y=l then dw s o l b else 0:=by
 have d:=h.drop;have nb6:=h.r.fm.sh.pl.nb6;have f:=h.bn;show Go.Proofs.YtbcacebifpagpagGreat.keptS (mi s.hs o l b).z x y (mi s.hs o l b).n=_;rw[<-yu _ x y _ d.1,<-yu _ x y _ h.r.fm.hold];by_cases c:x=o/\y=l
 .rw[if_pos c];have e:=tq (z:=λz=>keptV s.hs.n s.hs.z x y z) (z':=λz=>keptV (mi s.hs o l b).n (mi s.hs o l b).z x y z) (m:=b) (n := -dw s o l b) (k:=6) (by omega) (λi hi=>by
   rw[d.2];by_cases a:i=b
   .rw[if_pos ⟨c.1,c.2,by omega⟩,if_pos a,a,c.1,c.2];unfold dw;omega
   rw[if_neg (λe=>a (by omega)),if_neg a,Int.add_zero])
  rw[e];omega
 rw[if_neg c,Int.sub_zero];exact uh λi _=>by rw[d.2,if_neg (λe=>c ⟨e.1,e.2.1⟩)]
structure lu(p:Pl)(s:St)(o l b:Nat)(n:Int):Prop where
 hd:oy p s o l b
 n0:0<=n
 nh:n<=dw s o l b
 om:s.so.z (bu s o l)+n<=1048576
theorem N4{order line bin:Int}(h:jd p s order line bin n=0):ag p s=0/\∃o l b:Nat,order=o/\line=l/\bin=b/\lu p s o l b n:=by
 by_cases a:ag p s=0
 .by_cases c:dw s order line bin=0
  .rw[Hr a c] at h;exact absurd h (by decide)
  cases d:inB n 0 (dw s order line bin)
  .rw[F2 a c d] at h;exact absurd h (by decide)
  by_cases e:1048576<s.so.z (bu s order.toNat line.toNat)+n
  .rw[Hq a c d e] at h;exact absurd h (by decide)
  obtain⟨o,l,b,rfl,rfl,rfl,hi⟩:=Nr (dp a) c;have:=au d;exact⟨a,o,l,b,rfl,rfl,rfl,hi,this.1,this.2,by have f:¬1048576<s.so.z (bu s o l)+n:=e;omega⟩
 rw[zz a] at h;exact absurd h a
theorem lu.formed(h:lu p s o l b n):cx p (cn s o l b n):=by
 have f:=h.hd.r.fm;have d:=h.hd.drop;have g:=h.hd.good;have F:=h.hd.there;have E:=h.hd.sum;have bd:=h.hd.bd;have n0:=h.n0;have nh:=h.nh;have om:=h.om;have q:vz p (cn s o l b n).on:=⟨f.sh.pl,f.sh.n,λi hi=>(Eh s o l b n i).1.trans (f.sh.len i hi),λi hi j a=>by
  rw[(Eh s o l b n i).2 j];have D:=f.sh.num i hi j a;by_cases c:i=b/\j=bu s o l
  .rw[if_pos c];obtain⟨rfl,rfl⟩:=c;omega
  rw[if_neg c];exact D⟩
 refine⟨q,yg (wh f.sh0).1 q,f.os4,f.ms8,λi hi=>by rw[(ny s o l b n i).2];exact f.lns i hi,λi hi=>by rw[(ny s o l b n i).1];exact f.kind i hi,λi hi j a => ?_,d.1,λi hi => ?_,f.move,f.sin,f.son,f.sfn,f.sib,λj a => ?_,f.sfb⟩
 .have t:j<(s.os.z i).ls.n:=by rw[<-(ny s o l b n i).2];exact a
  rw[ue];by_cases c:i=o/\j=l
  .rw[if_pos c];obtain⟨b1,b2,b3,b4⟩:=er (f.line o h.hd.on l h.hd.ln);unfold ki;rw[bw (by dsimp only;omega),bw (by dsimp only;omega),bw (by dsimp only;omega),bw (by dsimp only;omega)]
   rfl
  rw[if_neg c];exact f.line i hi j t
 rotate_left
 .have m:=f.sob j a;show 0<=(if j=bu s o l then s.so.z (bu s o l)+n else s.so.z j)/\(if j=bu s o l then s.so.z (bu s o l)+n else s.so.z j)<=1048576;by_cases c:j=bu s o l
  .rw[if_pos c];rw[c] at m;omega
  rw[if_neg c];exact m
 have hx:ax (cn s o l b n).hs.n (db (cn s o l b n).hs.z)=false:=d.1;have e:=(o6 hx hi (wu _)).1;have fn:=(cz (cd hx i hi)).2.2.2;have A:keptV (cn s o l b n).hs.n (cn s o l b n).hs.z ((cn s o l b n).hs.z i).o ((cn s o l b n).hs.z i).l ((cn s o l b n).hs.z i).b=_:=d.2 _ _ _;rw[A] at e
 split at e
 .omega
 obtain⟨w,v,-⟩:=tn f.hold (o:=((cn s o l b n).hs.z i).o) (l:=((cn s o l b n).hs.z i).l) (b:=((cn s o l b n).hs.z i).b) (by omega);obtain⟨x,B,y⟩:=fk v;obtain⟨a1,k,u⟩:=i8 (f.home _ w);rw[x] at a1 k;rw[B] at k;rw[y] at u;refine qf a1 ⟨k.1,?_⟩ u;rw[(ny s o l b n _).2];exact k.2
theorem lu.held(h:lu p s o l b n)(c g:Nat):ca (cn s o l b n) c g (cn s o l b n).hs.n=ca s c g s.hs.n-if c=b/\g=bu s o l then dw s o l b else 0:=by
 have f:=h.hd.r.fm;have fx:=h.formed;have d:=h.hd.drop;have v:=h.hd.good;rw[ua (c:Int) (g:Int) _ fx.home fx.hold,ua (c:Int) (g:Int) _ f.home f.hold];have key:∀i j,lf (cn s o l b n) c g (cn s o l b n).hs.n i j=lf s c g s.hs.n i j+if i=o/\j=l then -(if c=b/\g=bu s o l then dw s o l b else 0) else 0:=λi j=>by
  unfold lf;have e:keptV (cn s o l b n).hs.n (cn s o l b n).hs.z (i:Int) (j:Int) (c:Int)=_:=d.2 i j c;rw[e];have w:(((cn s o l b n).os.z i).ls.z j).o=((s.os.z i).ls.z j).o:=by
   rw[ue];by_cases q:i=o/\j=l
   .rw[if_pos q,q.1,q.2]
   rw[if_neg q]
  rw[w];by_cases q:i=o/\j=l
  .rw[if_pos q];obtain⟨rfl,rfl⟩:=q;rw[v.1];by_cases t:g=bu s i j
   .subst t;rw[if_pos rfl,if_pos rfl];by_cases hc:c=b
    .subst hc;rw[if_pos ⟨rfl,rfl,rfl⟩,if_pos ⟨rfl,rfl⟩];unfold dw;omega
    rw[if_neg (λe=>hc (by omega)),if_neg (λe=>hc e.1)];omega
   rw[if_neg (λe=>t (by omega)),if_neg (λe=>t (by omega)),if_neg (λe=>t e.2)]
   rfl
  have x:(if (i:Int)=o/\(j:Int)=l/\(c:Int)=b then 0 else keptV s.hs.n s.hs.z (i:Int) (j:Int) (c:Int))=keptV s.hs.n s.hs.z (i:Int) (j:Int) (c:Int):=if_neg (λe=>q ⟨by omega,by omega⟩);rw[if_neg q,x,Int.add_zero]
 unfold B9;have y:(cn s o l b n).os.n=s.os.n:=rfl;rw[y];have:=tq (z:=λi=>cv (λj=>lf s c g s.hs.n i j) (s.os.z i).ls.n) (z':=λi=>cv (λj=>lf (cn s o l b n) c g (cn s o l b n).hs.n i j) ((cn s o l b n).os.z i).ls.n) (m:=o) (n := -(if c=b/\g=bu s o l then dw s o l b else 0)) (k:=s.os.n) h.hd.on (λi hi=>by
  rw[(ny s o l b n i).2];by_cases q:i=o
  .rw[if_pos q];subst q;exact tq h.hd.ln λj u=>by
    rw[key];by_cases a:j=l
    .rw[if_pos ⟨rfl,a⟩,if_pos a]
    rw[if_neg (λe=>a e.2),if_neg a]
  rw[if_neg q,Int.add_zero];exact uh λj u=>by rw[key,if_neg (λe=>q e.1),Int.add_zero])
 rw[this];omega
theorem lu.avail(h:lu p s o l b n)(c g:Nat):aw (cn s o l b n) c g=aw s c g+if c=b/\g=bu s o l then dw s o l b-n else 0:=by
 unfold aw;rw[h.held,(Eh s o l b n c).2 g];have e:bj (cn s o l b n) c g (cn s o l b n).ms.n=bj s c g s.ms.n:=pr (x:=cn s o l b n) (s:=s) (λj _=>rfl);rw[e];by_cases q:c=b/\g=bu s o l
 .rw[if_pos q,if_pos q,if_pos q];omega
 rw[if_neg q,if_neg q,if_neg q];omega
theorem lu.goods(h:lu p s o l b n)(g:Nat)(a:g<p.ns):cv (λi=>((cn s o l b n).on.r i).z g) (cn s o l b n).on.n=(cn s o l b n).si.z g-(cn s o l b n).so.z g+(cn s o l b n).sf.z g/\∀c,c<p.nb->0<=aw (cn s o l b n) c g:=by
 obtain⟨a1,d⟩:=ld (h.hd.r.goods g a);have n0:=h.n0;have nh:=h.nh;refine⟨?_,λc hc => ?_⟩
 .show cv _ s.on.n=s.si.z g-(if g=bu s o l then s.so.z (bu s o l)+n else s.so.z g)+s.sf.z g;by_cases q:g=bu s o l
  .rw[if_pos q];have e:=tq (z:=λi=>(s.on.r i).z g) (z':=λi=>((cn s o l b n).on.r i).z g) (m:=b) (n := -n) (k:=s.on.n) (by rw[h.hd.r.fm.sh.n];exact h.hd.bn) (λi hi=>by
    rw[(Eh s o l b n i).2 g];by_cases c:i=b
    .rw[if_pos ⟨c,q⟩,if_pos c];omega
    rw[if_neg (λe=>c e.1),if_neg c,Int.add_zero])
   rw[e,a1,q];omega
  rw[if_neg q,<-a1];exact uh λi hi=>by rw[(Eh s o l b n i).2 g,if_neg (λe=>q e.2)]
 rw[h.avail];have:=d c hc
 split<;>omega
theorem lu.lineOK(h:lu p s o l b n)(hi:i<s.os.n)(a:j<(s.os.z i).ls.n):cp (s.os.z i).k (((cn s o l b n).os.z i).ls.z j) (Go.Proofs.YtbcacebifpagpagGreat.keptS (cn s o l b n).hs.z i j (cn s o l b n).hs.n)=false:=by
 have w:=h.hd.r.orders i hi;unfold ch at w;rw[Xxq] at w;have d:cp (s.os.z i).k ((s.os.z i).ls.z j) (Go.Proofs.YtbcacebifpagpagGreat.keptS s.hs.z i j s.hs.n)=false:=dk w.2 j a;rw[h.hd.keptS,ue];by_cases c:i=o/\j=l
 .rw[if_pos c,if_pos ⟨by omega,by omega⟩];obtain⟨rfl,rfl⟩:=c;have f:=h.hd.sum;unfold cp;rw[h.hd.kind,if_neg (by decide),if_neg (by decide),Bool.not_eq_false',beq_iff_eq];dsimp only;omega
 rw[if_neg c,if_neg (λe=>c ⟨by omega,by omega⟩),Int.sub_zero];exact d
theorem lu.right(h:lu p s o l b n)(a:ko (cn s o l b n) o=false):ar p (cn s o l b n):=by
 refine⟨h.formed,λg a=>ti (h.goods g a).1 (h.goods g a).2,λi hi => ?_⟩;have w:=h.hd.r.orders i hi;unfold ch at w ⊢;rw[Xxq] at w ⊢;rw[(ny s o l b n i).1];refine⟨?_,cu λj d=>h.lineOK hi (by rw[<-(ny s o l b n i).2];exact d)⟩;by_cases c:i=o
 .subst c;unfold ko at a;rw[a,Bool.and_false]
 rw[<-w.1]
 congr 2
 rw[(ny s o l b n i).2];refine pe λj d => ?_;rw[ue,if_neg (λe=>c e.1)]
theorem lu.closed(h:lu p s o l b n)(m:ko (cn s o l b n) o=true):ar p (dj (cn s o l b n) o 2):=by
 have f:=h.formed;have t:∀i,((dj (cn s o l b n) o 2).os.z i).ls=((cn s o l b n).os.z i).ls:=λi=>Cb _ _ _ _;have all:∀j,j<((cn s o l b n).os.z o).ls.n->(((cn s o l b n).os.z o).ls.z j).b=(((cn s o l b n).os.z o).ls.z j).l:=λj d=>by
  unfold ko at m;rw[Bool.not_eq_true'] at m;have:=dk m j d;unfold jy at this
  simpa using this
 refine⟨⟨f.sh,f.sh0,f.os4,f.ms8,λi hi=>by rw[t];exact f.lns i hi,λi hi => ?_,λi hi j d=>by rw[t] at d ⊢;exact f.line i hi j d,f.hold,λi hi => ?_,f.move,f.sin,f.son,f.sfn,f.sib,f.sob,f.sfb⟩,λg m => ?_,λi hi => ?_⟩
 .show 0<=(if i=o then(⟨2,((cn s o l b n).os.z i).ls⟩:Od) else(cn s o l b n).os.z i).k/\(if i=o then(⟨2,((cn s o l b n).os.z i).ls⟩:Od) else(cn s o l b n).os.z i).k<=2
  split
  .exact⟨(by decide:(0:Int)<=2),(by decide:(2:Int)<=2)⟩
  exact f.kind i hi
 .have e:=i8 (f.home i hi);refine qf e.1 ⟨e.2.1.1,?_⟩ e.2.2;rw[t];exact e.2.1.2
 .refine ti (h.goods g m).1 λc hc => ?_;have a:=(h.goods g m).2 c hc;have e:aw (dj (cn s o l b n) o 2) c g=aw (cn s o l b n) c g:=by
   unfold aw;rw[sw (x:=dj (cn s o l b n) o 2) (s:=cn s o l b n) (λj _=>rfl) (λj _=>by unfold jw;rw[t])];rw[pr (x:=dj (cn s o l b n) o 2) (s:=cn s o l b n) (λj _=>rfl)]
   rfl
  rw[e];exact a
 have q:i<s.os.n:=hi;unfold ch;rw[t,Xxq];by_cases c:i=o;rotate_left
 .have A:(dj (cn s o l b n) o 2).os.z i=(cn s o l b n).os.z i:=if_neg c;rw[A,(ny s o l b n i).1];have w:=h.hd.r.orders i q;unfold ch at w;rw[Xxq] at w;refine⟨?_,cu λj d=>h.lineOK q (by rw[<-(ny s o l b n i).2];exact d)⟩;rw[<-w.1]
  congr 2
  rw[(ny s o l b n i).2];refine pe λj d => ?_;rw[ue,if_neg (λe=>c e.1)]
 subst c;have y:((dj (cn s i l b n) i 2).os.z i).k=2:=by rw[vo]
 rw[y];refine⟨rfl,cu λj d => ?_⟩;have v:j<(s.os.z i).ls.n:=by rw[<-(ny s i l b n i).2];exact d
 have u:=h.lineOK q v;have B:=all j d;have D:=(tm (z:=(cn s i l b n).hs.z) i j (cn s i l b n).hs.n λj d=>(cz (cd f.hold j d)).2.2.2).1;have E:=er (f.line i hi j d);rw[h.hd.kind] at u;unfold cp at u ⊢;rw[if_neg (by decide),if_neg (by decide),Bool.not_eq_false',beq_iff_eq] at u;rw[if_neg (by decide),if_pos rfl];simp only[Xxq,Bool.not_eq_false',beq_iff_eq];have e:(dj (cn s i l b n) i 2).hs=(cn s i l b n).hs:=rfl;rw[e];omega
theorem lu.takeIn(h:lu p s o l b n):i6 p (cn s o l b n) o l (dw s o l b-n):=by
 have e:=ue s o l b n o l;rw[if_pos ⟨rfl,rfl⟩] at e;have d:=er (h.hd.r.fm.line o h.hd.on l h.hd.ln);have g:=h.hd.good;have n0:=h.n0;have nh:=h.nh;have a:=h.hd.sum;refine⟨h.formed,λc hc => ?_,h.hd.on,by rw[(ny s o l b n o).2];exact h.hd.ln,by omega,?_,?_⟩
 .rw[e];exact(h.goods _ (by dsimp only;omega)).2 c hc
 .rw[e];dsimp only;omega
 rw[e,h.hd.keptS,if_pos ⟨rfl,rfl⟩];dsimp only;omega
theorem lu.stepIn(h:lu p s o l b n)(a:ko (cn s o l b n) o=false):km p b (cn s o l b n) o l (dw s o l b-n):=by
 have t:=h.takeIn;have:=h.hd.bn;exact⟨h.right a,t.on,t.ln,t.n0,Or.inr ⟨by rw[(ny s o l b n o).1];exact h.hd.kind,t.bk⟩,Or.inr ⟨by omega,by omega⟩⟩
theorem lu.all0(h:lu p s o l b n)(c:ko (cn s o l b n) o=true):dw s o l b-n=0:=by
 unfold ko at c;rw[Bool.not_eq_true'] at c;have a:=dk c l (by rw[(ny s o l b n o).2];exact h.hd.ln);rw[ue,if_pos ⟨rfl,rfl⟩] at a;unfold jy at a;have d:((s.os.z o).ls.z l).b+n=((s.os.z o).ls.z l).l:=by simpa using a
 have f:=er (h.hd.r.fm.line o h.hd.on l h.hd.ln);have e:=h.hd.sum;have bd:=h.hd.bd;have nh:=h.nh;omega
theorem Xb(h:lu p s o l b n):ar p (sj p s o l b n):=by
 unfold sj;cases a:ko (cn s o l b n) o
 .rw[if_neg (by decide)];exact l6.right (h.stepIn a) (zg h.takeIn)
 rw[if_pos rfl];exact h.closed a
end
theorem ai.orderCells(h:ai A w s)(e:o<s.os.n):∃g,s.os.a=some ⟨g,0,none⟩/\A<=g/\g<w.heap.size/\w.cell? ⟨g,o*2,none⟩=some (.int .i64 (s.os.z o).k)/\w.cell? ⟨g,o*2+1,none⟩=some (.slice (s.os.z o).ls.a (s.os.z o).ls.n (s.os.z o).ls.c)/\∀j,w.frozen? ⟨g,j,none⟩=false:=by
 obtain⟨g,f,i,b⟩:=h.os.list (by omega);have d:=b.cell (j:=o*2) (by omega);have e0:=qc (z:=s.os.z) e (show 0<2 by decide);rw[Nat.add_zero] at e0;rw[e0] at d;have c1:=b.cell (j:=o*2+1) (by omega);rw[qc (z:=s.os.z) e (show 1<2 by decide)] at c1;exact⟨g,f,i,b.lt,d,c1,λj=>b.frozen j⟩
theorem Wm{k:Nat}(a:((s.os.z i).ls.z k).b=0):setLine (fj s i k) i k 3 ((s.os.z i).ls.z k).l=fj s i (k+1):=by
 rw[<-Hl,a,Int.sub_zero]
structure de(A B7:Nat)(W0:World)(cur:St)(wk:World):Prop where
 own:ai A wk cur
 box:Blk wk B7 31 7 (λj=>cur.cells.getD j default)
 bel:Below W0.heap.size W0 wk
 le:A<=wk.heap.size
theorem de.below{e b:World}{cur:St}(h:de A c e cur b)(a:Below b.heap.size b d):de A c e cur d :=
 ⟨h.own.below a,h.box.below a,h.bel.trans (a.mono h.bel.size),Qzx h.le a.size⟩
theorem ai.onCell(h:ai A w s)(e:b<s.on.n)(i:g<(s.on.r b).n):∃d G,s.on.a=some ⟨d,0,none⟩/\d<w.heap.size/\w.cell? ⟨d,b,none⟩=some (.slice (some ⟨G,0,none⟩) (s.on.r b).n (s.on.r b).c)/\(s.on.r b).a=some ⟨G,0,none⟩/\A<=G/\G<w.heap.size/\(s.on.r b).n<=(s.on.r b).c/\(s.on.r b).c<=maxLen/\w.cell? ⟨G,g,none⟩=some (.int .i64 ((s.on.r b).z g))/\(∀j,w.frozen? ⟨G,j,none⟩=false)/\s.on.n<=s.on.c/\s.on.c<=maxLen:=by
 obtain⟨d,a1,m,l,k,f⟩:=h.on;obtain⟨G,b1,b2,b3,b4,b5⟩:=h.rows b e;have c:=f.cell (j:=b) e;rw[b1] at c;exact⟨d,G,a1,f.lt,c,b1,b2,b5.lt,b3,b4,b5.cell i,λj=>b5.frozen j,l,k⟩
theorem j9.cellAt{r:Rw}(h:j9 A w r)(b:g<r.n):∃G,r.a=some ⟨G,0,none⟩/\A<=G/\G<w.heap.size/\r.n<=r.c/\r.c<=maxLen/\w.cell? ⟨G,g,none⟩=some (.int .i64 (r.z g))/\∀j,w.frozen? ⟨G,j,none⟩=false:=by
 obtain⟨G,b1,b2,b3,b4,b5⟩:=h;exact⟨G,b1,b2,b5.lt,b3,b4,b5.cell b,λj=>b5.frozen j⟩
theorem ai.setOut{G:Nat}(h:ai A w s)(b:s.so.a=some ⟨G,0,none⟩)(g:Nat)(x:Int):ai A (w.setCell ⟨G,g,none⟩ (.int .i64 x)) (Go.Proofs.YtbcacebifpagpagGreat.setOut s g x):=by
 obtain⟨q,b1,b2,b3,b4,b5⟩:=h.so;rw[b] at b1;simp only[Qkx,Qkz,and_true] at b1;subst b1;refine⟨?_,λi hi=>(h.rows i hi).apart (λe=>(h.ari i hi).2.1 (e.trans b.symm)) _ _,h.rapart,h.os.other b5 (by decide) (by decide) _ _,h.hs.other b5 (by decide) _ _,h.ms.other b5 (by decide) _ _,h.msr.set _ _ _,h.si.apart (λe=>h.aio (e.trans b.symm)) _ _,h.so.set b _ _,h.sf.apart (λe=>h.aof (b.trans e.symm)) _ _,h.aio,h.aif,h.aof,h.ari⟩;obtain⟨d,j,a1,f,k,c⟩:=h.on;exact⟨d,j,a1,f,k,c.other (a:=⟨G,g,none⟩) (Blk.ne2 c b5 (by decide)) _⟩
theorem Ur{t:St}(h:af s t)(g:Nat)(x:Int):af (setOut s g x) (setOut t g x):=
 ⟨h.on,h.os,h.hs,h.ms,h.si,⟨h.so.1,λj a=>by
  show(if j=g then x else s.so.z j)=if j=g then x else t.so.z j;rw[h.so.2 j a]⟩,h.sf⟩
theorem J1{t:St}(h:af s t)(o l c:Nat)(v:Int):af (setLine s o l c v) (setLine t o l c v):=by
 refine⟨h.on,⟨h.os.1,λi hi => ?_⟩,h.hs,h.ms,h.si,h.so,h.sf⟩;have a:i<s.os.n:=hi;have e:=h.os.2 i a;rw[sy,sy,(dr i).1,(dr i).1];refine⟨e.1,e.2.1,λj b => ?_⟩;rw[pn,pn,e.2.2 j b]
theorem Po{t:St}(h:af s t){k a:Hs}(c:k.n=a.n)(b:∀j,j<k.n->k.z j=a.z j):af (withHolds s k) (withHolds t a):=⟨h.on,h.os,⟨c,b⟩,h.ms,h.si,h.so,h.sf⟩
theorem Hj{t:St}(h:af s t)(o:Nat)(v:Int):af (dj s o v) (dj t o v):=by
 refine⟨h.on,⟨h.os.1,λi hi => ?_⟩,h.hs,h.ms,h.si,h.so,h.sf⟩;have e:=h.os.2 i hi;show(if i=o then(⟨v,(s.os.z i).ls⟩:Od) else s.os.z i).k=(if i=o then(⟨v,(t.os.z i).ls⟩:Od) else t.os.z i).k/\((Ba s.os o v).z i).ls.n=((Ba t.os o v).z i).ls.n/\∀j,j<((Ba s.os o v).z i).ls.n->((Ba s.os o v).z i).ls.z j=((Ba t.os o v).z i).ls.z j;rw[Cb,Cb];refine⟨?_,e.2⟩;by_cases c:i=o
 .rw[if_pos c,if_pos c]
 rw[if_neg c,if_neg c];exact e.1
def vr(s:St)(h:Hs)(o l b g:Nat)(n k:Int):St:=setLine (setLine (setOut (setOn (withHolds s h) b g ((s.on.r b).z g-n)) g (s.so.z g+n)) o l 2 (((s.os.z o).ls.z l).b+n)) o l 3 (((s.os.z o).ls.z l).n+(k-n))
theorem Ht(e:af x s){n:Int}(a:oy p s o l b){h:Hs}(k:h.n=(mi s.hs o l b).n)(c:∀j,j<h.n->h.z j=(mi s.hs o l b).z j):af (vr x h o l b (bu s o l) n (dw s o l b)) (cn s o l b n):=by
 have g:=a.good;have f:(x.on.r b).z (bu s o l)=(s.on.r b).z (bu s o l):=e.num a.r.fm a.bn g.2;have i:x.so.z (bu s o l)=s.so.z (bu s o l):=e.so.2 _ (by rw[e.so.1,a.r.fm.son];exact g.2);have d:=e.line a.on a.ln;unfold vr cn;rw[f,i,d];exact J1 (J1 (Ur (zd (Po e k c) _ _ _) _ _) _ _ _ _) _ _ _ _
theorem km.same{but:Int}{a:St}{n:Int}(h:km p but y i j n)(e:af a y):km p but a i j n:=by
 have b:i<a.os.n:=by rw[e.os.1];exact h.on
 have k:=e.os.2 i b;refine⟨e.right h.r,b,by rw[k.2.1];exact h.ln,h.n0,?_,h.bt⟩;rw[k.1,e.line h.on h.ln];exact h.kd
theorem Fz(e:af x s)(b:o<s.os.n):ko x o=ko s o:=by
 have k:=e.os.2 o (by rw[e.os.1];exact b);unfold ko;rw[k.2.1]
 congr 1
 exact pe λj a=>by rw[k.2.2 j (by rw[k.2.1];exact a)]
abbrev Ac(p:Pl)(f:Bool):={ k:Nat // k<p.nb/\(p.zb k).front=f }
def frX(p:Pl)(f:Bool):Nat->List (Ac p f)
 | 0=>[]
 | k+1=>frX p f k++(if h:k<p.nb/\(p.zb k).front=f then [⟨k,h⟩] else [])
theorem Gg{f:Bool}{k:Nat}(h:k<p.nb/\(p.zb k).front=f):frX p f (k+1)=frX p f k++[⟨k,h⟩]:=by
 simp only[frX];rw[dif_pos h]
theorem L6{f:Bool}{k:Nat}(h:¬(p.zb k).front=f):frX p f (k+1)=frX p f k:=by
 simp only[frX];rw[dif_neg (λe=>h e.2),List.append_nil]
theorem acp(p:Pl)(f:Bool)(k:Nat):(frX p f k).length<=k:=by
 induction k with
 | zero=>exact Nat.le_refl _
 | succ k ih =>
  by_cases h:k<p.nb/\(p.zb k).front=f
  .rw[Gg h,List.length_append];simp;omega
  simp only[frX];rw[dif_neg h,List.append_nil];omega
theorem Wk(p:Pl)(f:Bool){k m:Nat}(h:k<=m):frX p f k <+: frX p f m:=by
 induction m with
 | zero=>rw[show k=0 by omega];exact List.prefix_refl _
 | succ m ih =>
  by_cases a:k=m+1
  .rw[a];exact List.prefix_refl _
  exact(ih (by omega)).trans (List.prefix_append _ _)
def ja(s:St)(m:Hd):St:=withMoves s ⟨s.ms.a,s.ms.n+1,s.ms.c,λi=>if i=s.ms.n then m else s.ms.z i⟩
def px(p:Pl)(s:St)(b g f:Nat):Int:=min (min ((p.zb b).high-dx s b g) (aw s f g)) ((gj p s b).tdiv (p.zs g))
def o5(p:Pl)(b g f:Nat)(s:St):St:=if s.ms.n<8/\1<=px p s b g f then ja s ⟨g,f,b,px p s b g f⟩ else s
def jt(p:Pl)(b g:Nat)(L:List (Ac p false))(s:St):St:=L.foldl (λy f=>o5 p b g f.1 y) s
def jg(p:Pl)(b:Nat):Nat->St->St
 | 0,s=>s
 | g+1,s=>if (p.zb b).low<=dx (jg p b g s) b g then jg p b g s else jt p b g (frX p false p.nb) (jg p b g s)
def my(p:Pl)(L:List (Ac p true))(s:St):St:=L.foldl (λy b=>jg p b.1 p.ns y) s
def Cl(p:Pl)(s:St):St:=my p (frX p true p.nb) s
theorem Nl(p:Pl)(b g:Nat)(L:List (Ac p false))(f:Ac p false)(s:St):jt p b g (L++[f]) s=o5 p b g f.1 (jt p b g L s):=by
 unfold jt;rw[List.foldl_append];rfl
theorem Nk(p:Pl)(L:List (Ac p true))(b:Ac p true)(s:St):my p (L++[b]) s=jg p b.1 p.ns (my p L s):=by
 unfold my;rw[List.foldl_append];rfl
theorem P4(h:(p.zb b).low<=dx (jg p b g s) b g):jg p b (g+1) s=jg p b g s:=by
 simp only[jg];rw[if_pos h]
theorem Sn(h:¬(p.zb b).low<=dx (jg p b g s) b g):jg p b (g+1) s=jt p b g (frX p false p.nb) (jg p b g s):=by
 simp only[jg];rw[if_neg h]
theorem Ea{f:Nat}(h:8<=s.ms.n):o5 p b g f s=s:=if_neg (by omega)
theorem Dd{p:Pl}{b g:Nat}{s:St}(h:8<=s.ms.n):∀L,jt p b g L s=s
 | []=>rfl
 | f :: L=>by
  have:jt p b g (f :: L) s=jt p b g L (o5 p b g f.1 s):=rfl;rw[this,Ea h];exact Dd h L
theorem Nm{p:Pl}{b:Nat}{s:St}(h:8<=s.ms.n):∀g,jg p b g s=s
 | 0=>rfl
 | g+1=>by
  have a:=Nm (p:=p) (b:=b) h g;simp only[jg];rw[a,Dd h]
  split<;>rfl
theorem Nj{p:Pl}{s:St}(h:8<=s.ms.n):∀L,my p L s=s
 | []=>rfl
 | b :: L=>by
  have:my p (b :: L) s=my p L (jg p b.1 p.ns s):=rfl;rw[this,Nm h];exact Nj h L
theorem Y4{L M:List (Ac p false)}(a:L <+: M)(e:jt p b g L s=y)(h:8<=y.ms.n):jt p b g M s=y:=by
 obtain⟨R,rfl⟩:=a;have:jt p b g (L++R) s=jt p b g R (jt p b g L s):=List.foldl_append;rw[this,e,Dd h]
theorem P3{p:Pl}{b:Nat}{s y:St}{k:Nat}(e:jg p b k s=y)(h:8<=y.ms.n):∀{m:Nat},k<=m->jg p b m s=y
 | 0,hm=>by rw[show k=0 by omega] at e;exact e
 | m+1,hm=>by
  by_cases c:k=m+1
  .rw[<-c];exact e
  have a:=P3 e h (m:=m) (by omega);simp only[jg];rw[a,Dd h]
  split<;>rfl
theorem Y3{L M:List (Ac p true)}(a:L <+: M)(e:my p L s=y)(h:8<=y.ms.n):my p M s=y:=by
 obtain⟨R,rfl⟩:=a;have:my p (L++R) s=my p R (my p L s):=List.foldl_append;rw[this,e,Nj h]
section
variable {p:Pl} {s y:St} {m:Hd} {b g f:Nat}
theorem yp(s:St)(m:Hd)(h:j<s.ms.n):(ja s m).ms.z j=s.ms.z j:=if_neg (by omega)
theorem xr(s:St)(m:Hd):(ja s m).ms.z s.ms.n=m:=if_pos rfl
theorem Rv(s:St)(m:Hd)(b g:Int):bj (ja s m) b g (ja s m).ms.n=bj s b g s.ms.n+if m.l=b/\m.o=g then m.n else 0:=by
 show bj (ja s m) b g (s.ms.n+1)=_;simp only[bj];rw[xr,pr (x:=ja s m) (s:=s) (k:=s.ms.n) λj a=>yp s m a]
theorem Rx(s:St)(m:Hd)(b g:Int)(k:Nat):ca (ja s m) b g k=ca s b g k:=sw (λj a=>rfl) (λj a=>rfl)
theorem Q4(s:St)(m:Hd)(b g:Nat):aw (ja s m) b g=aw s b g-if m.l=(b:Int)/\m.o=(g:Int) then m.n else 0:=by
 unfold aw;rw[Rv];rw[show ca (ja s m) b g (ja s m).hs.n=ca s b g s.hs.n from Rx s m b g s.hs.n];rw[show((ja s m).on.r b).z g=(s.on.r b).z g from rfl];omega
theorem Fw{x s:St}{b g:Int}:∀{k:Nat},(∀j,j<k->x.ms.z j=s.ms.z j)->bq x b g k=bq s b g k
 | 0,_=>rfl
 | k+1,h=>by
  simp only[bq];rw[Fw (k:=k) λj a=>h j (by omega),h k (by omega)]
theorem Ie(s:St)(m:Hd)(b g:Nat):dx (ja s m) b g=dx s b g+if m.b=(b:Int)/\m.o=(g:Int) then m.n else 0:=by
 unfold dx;have:bq (ja s m) b g (ja s m).ms.n=bq s b g s.ms.n+if m.b=(b:Int)/\m.o=(g:Int) then m.n else 0:=by
  show bq (ja s m) b g (s.ms.n+1)=_;simp only[bq];rw[xr,Fw (x:=ja s m) (s:=s) (k:=s.ms.n) λj a=>yp s m a]
 rw[this,show((ja s m).on.r b).z g=(s.on.r b).z g from rfl,Int.add_assoc]
theorem Ru(p:Pl)(s:St)(m:Hd)(b:Nat):gj p (ja s m) b=gj p s b-if m.b=(b:Int) then m.n*p.zs m.o.toNat else 0:=by
 unfold gj;have:js p (ja s m) b (ja s m).ms.n=js p s b s.ms.n+if m.b=(b:Int) then m.n*p.zs m.o.toNat else 0:=by
  show js p (ja s m) b (s.ms.n+1)=_;simp only[js];rw[xr,J5 (x:=ja s m) (s:=s) (k:=s.ms.n) λj a=>yp s m a]
 rw[this,show(ja s m).on=s.on from rfl];omega
theorem Vu(f:0<=m.o/\m.o<p.ns)(d:0<=m.l/\m.l<p.nb)(c:0<=m.b/\m.b<p.nb)(a:¬m.l=m.b)(e:1<=m.n/\m.n<=200):mp p m=false:=by
 unfold mp;rw[bw (by omega),bw (by omega),bw (by omega),bw (by omega)]
 simpa using a
theorem Q5(r:ar p s)(u:s.ms.n<8)(q:g<p.ns)(v:f<p.nb)(w:b<p.nb)(m:¬f=b){n:Int}(d:1<=n)(l:n<=200)(t:n<=aw s f g):ar p (ja s ⟨g,f,b,n⟩):=by
 have F:=r.fm;refine⟨⟨F.sh,F.sh0,F.os4,by show s.ms.n+1<=8;omega,F.lns,F.kind,F.line,F.hold,F.home,λi hi => ?_,F.sin,F.son,F.sfn,F.sib,F.sob,F.sfb⟩,λj a => ?_,r.orders⟩
 .have o:i<s.ms.n+1:=hi;by_cases h:i=s.ms.n
  .rw[h,xr];refine Vu ⟨?_,?_⟩ ⟨?_,?_⟩ ⟨?_,?_⟩ ?_ ⟨d,l⟩<;>simp<;>omega
  rw[yp s _ (by omega)];exact F.move i (by omega)
 obtain⟨a1,e⟩:=ld (r.goods j a);refine ti a1 λi hi => ?_;rw[Q4];have:=e i hi;by_cases h:(f:Int)=(i:Int)/\(g:Int)=(j:Int)
 .rw[if_pos h];have k:f=i:=by omega
  have c:g=j:=by omega
  subst k c;show 0<=aw s f g-n;omega
 rw[if_neg h];omega
theorem D1(h:af x y)(m:Hd){k:Hs}(a:k.n=x.ms.n+1)(b:∀j,j<x.ms.n->k.z j=x.ms.z j)(c:k.z x.ms.n=m):af (withMoves x k) (ja y m):=by
 refine⟨h.on,h.os,h.hs,⟨?_,λj d => ?_⟩,h.si,h.so,h.sf⟩
 .show k.n=y.ms.n+1;rw[a,h.ms.1]
 have f:j<x.ms.n+1:=by rw[<-a];exact d
 show k.z j=if j=y.ms.n then m else y.ms.z j;rw[<-h.ms.1];by_cases e:j=x.ms.n
 .rw[if_pos e,e];exact c
 rw[if_neg e,b j (by omega)];exact h.ms.2 j (by omega)
structure gp(p:Pl)(s y:St):Prop where
 r:ar p y
 eq:y=withMoves s y.ms
 ge:s.ms.n<=y.ms.n
 pre:∀k,k<s.ms.n->y.ms.z k=s.ms.z k
 new:∀k,s.ms.n<=k->k<y.ms.n->∃b g f:Nat,(y.ms.z k).o=g/\(y.ms.z k).l=f/\(y.ms.z k).b=b/\f<p.nb/\b<p.nb/\g<p.ns/\(p.zb f).front=false/\(p.zb b).front=true/\dx y b g<=(p.zb b).high
 free:∀b,b<p.nb->gj p y b<=gj p s b/\(gj p y b<0->gj p y b=gj p s b)
theorem gp.refl(r:ar p s):gp p s s:=⟨r,rfl,Nat.le_refl _,λ_ _=>rfl,λk d a=>absurd a (by omega),λb c=>⟨Int.le_refl _,λ_=>rfl⟩⟩
theorem acz{a z n:Int}(c:1<=z)(f:1<=n)(h:n<=a.tdiv z):n*z<=a:=by
 by_cases b:0<=a
 .rw[Int.tdiv_eq_ediv_of_nonneg b] at h;exact Int.le_trans (Int.mul_le_mul_of_nonneg_right h (by omega)) (Int.ediv_mul_le a (by omega))
 have d:a.tdiv z = - ((-a).tdiv z):=by rw[Int.neg_tdiv];omega
 have e:0<=(-a).tdiv z:=Int.tdiv_nonneg (by omega) (by omega);omega
theorem So(p:Pl)(s:St)(b g f:Nat):px p s b g f<=(p.zb b).high-dx s b g/\px p s b g f<=aw s f g/\px p s b g f<=(gj p s b).tdiv (p.zs g):=by
 unfold px;omega
theorem aa4(r:ar p s)(d:g<p.ns)(c:b<p.nb):px p s b g f<=200:=by
 have F:=r.fm;have h:=(So p s b g f).1;have e:0<=dx s b g:=by
  unfold dx;have:=(F.sh.num b (by rw[F.sh.n];exact c) g d).1;have:=(me (s:=s) (b:=b) (g:=g) F.moveN).1;omega
 have a:=F.sh.pl.bins b c;rw[Ex] at a;simp only[Xxq,Bool.not_eq_false'] at a;have:=au a.1.2;omega
theorem gp.step(h:gp p s y)(m:b<p.nb)(i:(p.zb b).front=true)(d:g<p.ns)(u:f<p.nb)(a:(p.zb f).front=false):gp p s (o5 p b g f y):=by
 unfold o5;by_cases c:y.ms.n<8/\1<=px p y b g f;rotate_left
 .rw[if_neg c];exact h
 rw[if_pos c];have le:=So p y b g f;have t:¬f=b:=λe=>by rw[e,i] at a;cases a
 have bd:=aa4 (f:=f) h.r d m;obtain⟨c1,c2⟩:=c
 generalize px p y b g f=n at *
 refine⟨Q5 h.r c1 d u m t c2 bd le.2.1,?_,by show s.ms.n<=y.ms.n+1;have:=h.ge;omega,λk K => ?_,λk D A => ?_,λc hc => ?_⟩
 .rw[ja];conv=>lhs;rw[h.eq]
  rfl
 .rw[yp y _ (by have:=h.ge;omega)];exact h.pre k K
 rotate_left
 .rw[Ru];obtain⟨L,E⟩:=h.free c hc;by_cases e:(b:Int)=(c:Int)
  .rw[if_pos e];have o:b=c:=by omega
   subst o;have G:=(h.r.fm.sh.pl.sizes g d).1;have:=acz G c2 le.2.2;have S:0<=n*p.zs g:=Int.mul_nonneg (by omega) (by omega);show gj p y b-n*p.zs (g:Int).toNat<=_/\(gj p y b-n*p.zs (g:Int).toNat<0->_);rw[Int.toNat_natCast];omega
  rw[if_neg e,Int.sub_zero];exact⟨L,E⟩
 have P:k<y.ms.n+1:=A;by_cases e:k=y.ms.n
 .rw[e,xr];refine⟨b,g,f,rfl,rfl,rfl,u,m,d,a,i,?_⟩;rw[Ie,if_pos ⟨rfl,rfl⟩];have:=le.1;show dx y b g+n<=_;omega
 rw[yp y _ (by omega)];obtain⟨j,l,f',x,F,H,v,M,B,w,z,Q⟩:=h.new k D (by omega);refine⟨j,l,f',x,F,H,v,M,B,w,z,?_⟩;rw[Ie];by_cases q:(b:Int)=(j:Int)/\(g:Int)=(l:Int)
 .rw[if_pos q];have o:b=j:=by omega
  have J:g=l:=by omega
  subst o J;have:=le.1;show dx y b g+n<=_;omega
 rw[if_neg q];omega
theorem gp.F(h:gp p s y)(d:b<p.nb)(a:(p.zb b).front=true)(c:g<p.ns):∀(L:List (Ac p false)),gp p s (jt p b g L y):=by
 intro L
 induction L generalizing y with
 | nil=>exact h
 | cons f L ih=>exact ih (h.step d a c f.2.1 f.2.2)
theorem gp.G(h:gp p s y)(d:b<p.nb)(a:(p.zb b).front=true):∀{g:Nat},g<=p.ns->gp p s (jg p b g y)
 | 0,_=>h
 | g+1,hg=>by
  have c:=gp.G h d a (g:=g) (by omega);simp only[jg]
  split
  .exact c
  exact c.F d a (by omega) _
theorem gp.B(h:gp p s y):∀(L:List (Ac p true)),gp p s (my p L y):=by
 intro L
 induction L generalizing y with
 | nil=>exact h
 | cons b L ih=>exact ih (h.G b.2.1 b.2.2 nlr)
theorem Y5(r:ar p s):gp p s (Cl p s):=(gp.refl r).B _
end
theorem af.lying{t:St}(h:af x t)(f:cx p t)(d:b<p.nb)(a:g<p.ns):dx x b g=dx t b g:=by
 unfold dx;rw[h.num f d a,h.ms.1,Fw (x:=x) (s:=t) λj c=>h.ms.2 j (by rw[h.ms.1];exact c)]
theorem Hc{t:St}(h:af x t)(F:cx p t){f:Nat}(c:b<p.nb)(a:g<p.ns)(d:f<p.nb):px p x b g f=px p t b g f:=by
 unfold px;rw[h.lying F c a,h.avail F d a,h.free F c]
def C3(h:Hs)(k:Nat):Hs:=⟨h.a,h.n-1,h.c,λi=>if i<k then h.z i else h.z (i+1)⟩
def gu(p:Pl)(s:St)(k n:Int):Int :=
 if ag p s=0 then(if inB k 0 ((s.ms.n:Int)-1) then(if inB n 0 (s.ms.z k.toNat).n then(if 200<(s.on.r (s.ms.z k.toNat).b.toNat).z (s.ms.z k.toNat).o.toNat+n then 2 else 0) else 3) else 4) else ag p s
def ve(s:St)(h:Hs)(f b g:Nat)(n:Int):St:=setOn (setOn (withMoves s h) f g ((s.on.r f).z g-n)) b g ((s.on.r b).z g+n)
def jz(s:St)(k:Nat)(n:Int):St:=ve s (C3 s.ms k) (s.ms.z k).l.toNat (s.ms.z k).b.toNat (s.ms.z k).o.toNat n
section
variable {p:Pl} {s x:St} {k:Nat} {n:Int}
theorem x9{k:Int}(h:¬ag p s=0):gu p s k n=ag p s:=by unfold gu;rw[if_neg h]
theorem F1{k:Int}(h:ag p s=0)(a:inB k 0 ((s.ms.n:Int)-1)=false):gu p s k n=4:=by unfold gu;rw[if_pos h,a];rfl
theorem Ef{k:Int}(h:ag p s=0)(b:inB k 0 ((s.ms.n:Int)-1)=true)(a:inB n 0 (s.ms.z k.toNat).n=false):gu p s k n=3:=by unfold gu;rw[if_pos h,b,a];rfl
theorem F0{k:Int}(h:ag p s=0)(d:inB k 0 ((s.ms.n:Int)-1)=true)(c:inB n 0 (s.ms.z k.toNat).n=true)(a:200<(s.on.r (s.ms.z k.toNat).b.toNat).z (s.ms.z k.toNat).o.toNat+n):gu p s k n=2:=by unfold gu;rw[if_pos h,d,c,if_pos a];rfl
theorem Qn{k:Int}(h:ag p s=0)(d:inB k 0 ((s.ms.n:Int)-1)=true)(c:inB n 0 (s.ms.z k.toNat).n=true)(a:¬200<(s.on.r (s.ms.z k.toNat).b.toNat).z (s.ms.z k.toNat).o.toNat+n):gu p s k n=0:=by unfold gu;rw[if_pos h,d,c,if_neg a];rfl
structure p8(p:Pl)(s:St)(k f b g:Nat)(N n:Int):Prop where
 r:ar p s
 kn:k<s.ms.n
 m:s.ms.z k=⟨g,f,b,N⟩
 fn:f<p.nb
 bn:b<p.nb
 gn:g<p.ns
 ne:¬f=b
 n0:0<=n
 nN:n<=N
 N1:1<=N
 N2:N<=200
 to:(s.on.r b).z g+n<=200
theorem U7{k:Int}(h:gu p s k n=0):ag p s=0/\∃(i f b g:Nat) (N:Int),k=i/\p8 p s i f b g N n:=by
 by_cases a:ag p s=0
 .refine⟨a,?_⟩;cases c:inB k 0 ((s.ms.n:Int)-1)
  .rw[F1 a c] at h;cases h
  cases d:inB n 0 (s.ms.z k.toNat).n
  .rw[Ef a c d] at h;cases h
  by_cases t:200<(s.on.r (s.ms.z k.toNat).b.toNat).z (s.ms.z k.toNat).o.toNat+n
  .rw[F0 a c d t] at h;cases h
  have r:=dp a;have x:=au c;have e:=au d;have j:k.toNat<s.ms.n:=by omega
  obtain⟨u,w,m,y,q,v⟩:=rv (r.fm.move k.toNat j);refine⟨k.toNat,(s.ms.z k.toNat).l.toNat,(s.ms.z k.toNat).b.toNat,(s.ms.z k.toNat).o.toNat,(s.ms.z k.toNat).n,by omega,r,j,?_,by omega,by omega,by omega,by omega,e.1,e.2,q,v,by omega⟩;rw[Int.toNat_of_nonneg u.1,Int.toNat_of_nonneg w.1,Int.toNat_of_nonneg m.1]
 rw[x9 a] at h;exact absurd h a
end
section
variable {p:Pl} {s x:St} {k f b g:Nat} {N n:Int}
theorem p8.T(h:p8 p s k f b g N n):jz s k n=ve s (C3 s.ms k) f b g n:=by
 unfold jz;rw[h.m];simp only[Int.toNat_natCast]
theorem Cx(s:St)(b g:Nat)(v:Int)(i j:Nat):((setOn s b g v).on.r i).z j=if i=b/\j=g then v else(s.on.r i).z j:=by
 show(if i=b then lp (s.on.r i) g v else s.on.r i).z j=_;by_cases hi:i=b
 .rw[if_pos hi];show(if j=g then v else(s.on.r i).z j)=_;by_cases a:j=g
  .rw[if_pos a,if_pos ⟨hi,a⟩]
  rw[if_neg a,if_neg (λe=>a e.2)]
 rw[if_neg hi,if_neg (λe=>hi e.1)]
theorem s9(s:St)(b g:Nat)(v:Int)(i:Nat):((setOn s b g v).on.r i).n=(s.on.r i).n:=by
 show(if i=b then lp (s.on.r i) g v else s.on.r i).n=_;by_cases hi:i=b
 .rw[if_pos hi];rfl
 rw[if_neg hi]
theorem Fg(h:p8 p s k f b g N n)(i j:Nat):((jz s k n).on.r i).z j=(s.on.r i).z j+if j=g then(if i=b then n else if i=f then -n else 0) else 0:=by
 have e:=h.ne;rw[h.T,ve,Cx,Cx,show(withMoves s (C3 s.ms k)).on=s.on from rfl];by_cases c:j=g
 .subst c;by_cases a:i=b
  .subst a;simp
  by_cases d:i=f
  .subst d;simp[a];omega
  simp[a,d]
 simp[c]
theorem Zo(h:p8 p s k f b g N n)(i:Nat):((jz s k n).on.r i).n=(s.on.r i).n:=by
 rw[h.T,ve,s9,s9];rfl
theorem Mb(h:p8 p s k f b g N n):(jz s k n).ms=C3 s.ms k:=rfl
theorem Sg{b g:Int}{x s:St}(c:∀i,x.ms.z i=if i<k then s.ms.z i else s.ms.z (i+1)):∀m,(m<=k->bj x b g m=bj s b g m)/\(k<=m->bj x b g m+(if (s.ms.z k).l=b/\(s.ms.z k).o=g then(s.ms.z k).n else 0)=bj s b g (m+1))
 | 0=>⟨λ_=>rfl,λh=>by
  rw[show k=0 by omega];simp[bj]⟩
 | m+1=>by
  obtain⟨d,p⟩:=Sg (b:=b) (g:=g) c m;refine⟨λh => ?_,λh => ?_⟩
  .have e0:x.ms.z m=s.ms.z m:=by rw[c m];exact if_pos (by omega)
   simp only[bj];rw[d (by omega),e0]
  by_cases e:k=m+1
  .have:bj x b g (m+1)=bj s b g (m+1):=by
    have e0:x.ms.z m=s.ms.z m:=by rw[c m];exact if_pos (by omega)
    simp only[bj];rw[d (by omega),e0]
   rw[this,e];simp only[bj]
  have a:=p (by omega);have f:bj x b g (m+1)=bj x b g m+(if (s.ms.z (m+1)).l=b/\(s.ms.z (m+1)).o=g then(s.ms.z (m+1)).n else 0):=by
   have e0:x.ms.z m=s.ms.z (m+1):=by rw[c m];exact if_neg (by omega)
   simp only[bj];rw[e0]
  have j:bj s b g (m+1+1)=bj s b g (m+1)+(if (s.ms.z (m+1)).l=b/\(s.ms.z (m+1)).o=g then(s.ms.z (m+1)).n else 0):=rfl;rw[f,j,<-a];omega
theorem Wt(h:p8 p s k f b g N n)(c j:Nat):bj (jz s k n) c j (jz s k n).ms.n+(if f=c/\g=j then N else 0)=bj s c j s.ms.n:=by
 have a:=h.kn;have:=(Sg (b:=(c:Int)) (g:=(j:Int)) (x:=jz s k n) (s:=s) (k:=k) (λi=>by rw[Mb h];rfl) (s.ms.n-1)).2 (by omega);rw[show s.ms.n-1+1=s.ms.n by omega,h.m] at this;rw[Mb h];show bj (jz s k n) c j (s.ms.n-1)+_=_;rw[<-this]
 congr 1
 by_cases e:f=c/\g=j
 .rw[if_pos e,if_pos (by simp[e.1,e.2])]
 rw[if_neg e,if_neg (by simp;omega)]
theorem Wu(h:p8 p s k f b g N n)(c j:Int):ca (jz s k n) c j (jz s k n).hs.n=ca s c j s.hs.n:=sw (x:=jz s k n) (s:=s) (λ_ _=>rfl) (λ_ _=>rfl)
theorem Ul(h:p8 p s k f b g N n)(c j:Nat):aw (jz s k n) c j=aw s c j+if j=g then(if c=b then n else if c=f then N-n else 0) else 0:=by
 unfold aw;have a:=Wt h c j;have m:=h.ne;rw[Wu h,Fg h,<-a];by_cases d:j=g
 .subst d;by_cases l:c=b
  .subst l;simp[m];omega
  by_cases i:c=f
  .subst i;simp[l];omega
  have q:¬f=c:=λe=>i e.symm;simp[l,i,q]
 have o:¬g=j:=λe=>d e.symm;simp[d,o]
theorem P9{s:St}{b g:Int}:∀{m:Nat},(∀j,j<m->1<=(s.ms.z j).n/\(s.ms.z j).n<=200)->∀{k:Nat},k<m->(s.ms.z k).l=b->(s.ms.z k).o=g->(s.ms.z k).n<=bj s b g m
 | m+1,h,k,hk,h1,h2=>by
  have bd:=(jx (s:=s) (b:=b) (g:=g) (n:=m) λj a=>h j (by omega)).1;by_cases e:k=m
  .subst e;rw[He h1 h2];omega
  have c:=P9 (b:=b) (g:=g) (m:=m) (λj a=>h j (by omega)) (k:=k) (by omega) h1 h2;have:=(h m (by omega)).1;simp only[bj]
  split<;>omega
theorem Um(h:p8 p s k f b g N n):ar p (jz s k n):=by
 have r:=h.r;have F:=r.fm;have t:=h.fn;have x:=h.bn;have v:=h.gn;have n0:=h.n0;have nN:=h.nN;have to:=h.to;have y:=h.ne;have on:N<=(s.on.r f).z g:=by
  have a:=(ld (r.goods g v)).2 f t;have b1:=(nw (s:=s) (b:=f) (g:=g) F.holdN).1;have c:=P9 (s:=s) (b:=f) (g:=g) F.moveN h.kn (by rw[h.m]) (by rw[h.m]);rw[h.m] at c;unfold aw at a;have B:N<=bj s f g s.ms.n:=c;omega
 have hs:vz p (jz s k n).on:=by
  refine⟨F.sh.pl,F.sh.n,λi hi=>by rw[Zo h];exact F.sh.len i hi,λi hi j l => ?_⟩;have q:=F.sh.num i hi j l;rw[Fg h];by_cases d:j=g
  .subst d;by_cases e:i=b
   .subst e;simp;omega
   by_cases o:i=f
   .subst o;simp[e];omega
   simp[e,o];omega
  simp[d];omega
 refine⟨⟨hs,yg (wh F.sh0).1 hs,F.os4,by show s.ms.n-1<=8;have:=F.ms8;omega,F.lns,F.kind,F.line,F.hold,F.home,λi hi => ?_,F.sin,F.son,F.sfn,F.sib,F.sob,F.sfb⟩,λj l => ?_,r.orders⟩
 .have A:i<s.ms.n-1:=hi;rw[Mb h];show mp p (if i<k then s.ms.z i else s.ms.z (i+1))=false
  split
  .exact F.move i (by omega)
  exact F.move (i+1) (by omega)
 obtain⟨a1,w⟩:=ld (r.goods j l);refine ti ?_ λi hi => ?_
 .show cv (λi=>((jz s k n).on.r i).z j) s.on.n=s.si.z j-s.so.z j+s.sf.z j;rw[<-a1];by_cases d:j=g
  .have E:=tq (z:=λi=>(s.on.r i).z j) (z':=λi=>(s.on.r i).z j+if i=f then -n else 0) (m:=f) (n := -n) (k:=s.on.n) (by rw[F.sh.n];exact t) λi _=>rfl;have D:=tq (z:=λi=>(s.on.r i).z j+if i=f then -n else 0) (z':=λi=>((jz s k n).on.r i).z j) (m:=b) (n:=n) (k:=s.on.n) (by rw[F.sh.n];exact x) λi _=>by
    rw[Fg h,if_pos d];by_cases e:i=b
    .have u:¬i=f:=by omega
     simp[e]<;>omega
    simp[e]
   omega
  exact ta λi _=>by rw[Fg h,if_neg d,Int.add_zero]
 rw[Ul h];have:=w i hi;by_cases d:j=g
 .rw[if_pos d]
  split
  .omega
  split<;>omega
 rw[if_neg d];omega
theorem Pp{t:St}(h:af x t){k a:Hs}(c:k.n=a.n)(b:∀j,j<k.n->k.z j=a.z j):af (withMoves x k) (withMoves t a):=⟨h.on,h.os,h.hs,⟨c,b⟩,h.si,h.so,h.sf⟩
theorem Co(h:p8 p s k f b g N n)(e:af x s){q:Hs}(c:q.n=s.ms.n-1)(a:∀j,j<q.n->q.z j=(C3 s.ms k).z j):af (ve x q f b g n) (jz s k n):=by
 rw[h.T];unfold ve;rw[e.num h.r.fm h.fn h.gn,e.num h.r.fm h.bn h.gn];exact zd (zd (Pp e c a) _ _ _) _ _ _
end
def ct(b g:Int)(m:Hd):Bool:=(m.l==b)&&(m.o==g)
def ce(s:St)(b g:Int)(h:Hd):Bool:=(h.b==b)&&(jw s h==g)
def ab2(f:Hd->Bool)(h:Hs)(m:Int):Hs:=⟨h.a,h.n,h.c,l7 f h.n m h.z⟩
def cq(f:Hd->Bool)(h:Hs)(m:Int):Hs:=dz (ab2 f h m) ts
def qh(s:St):List Hd:=cy s.ms.z s.ms.n
def mq(s:St):List Hd:=cy s.hs.z s.hs.n
def uv(x:Hd)(d:Int):Hd:=⟨x.o,x.l,x.b,x.n+d⟩
def Ge(os:Os)(q:Int->Int->Int):Os:=⟨os.a,os.n,os.c,λi=>⟨(os.z i).k,⟨(os.z i).ls.a,(os.z i).ls.n,(os.z i).ls.c,λj=>uv ((os.z i).ls.z j) (q i j)⟩⟩⟩
def iu(s:St)(b g M:Int):Int:=uu (ct b g) M (qh s)
def ew(s:St)(b g M:Int):Int->Int->Int:=lr (ce s b g) (iu s b g M) (mq s)
def je(s:St)(b g M:Int):St:=⟨s.on,Ge s.os (ew s b g M),cq (ce s b g) s.hs (iu s b g M),cq (ct b g) s.ms M,s.si,s.so,s.sf⟩
def setFix(s:St)(g:Nat)(x:Int):St:=⟨s.on,s.os,s.hs,s.ms,s.si,s.so,lp s.sf g x⟩
def ju(s:St)(b g:Nat)(seen:Int):St:=setFix (setOn s b g seen) g (s.sf.z g+(seen-(s.on.r b).z g))
def oq(s:St)(b g:Nat):Int:=ca s b g s.hs.n+bj s b g s.ms.n
def ey(s:St)(b g:Nat)(seen:Int):Int:=max 0 (oq s b g-seen)
def pi(s:St)(b g:Nat)(seen:Int):St:=ju (je s b g (ey s b g seen)) b g seen
def Gf(s:St)(b g:Nat)(seen:Int)(i j:Nat):Int:=ew s b g (ey s b g seen) i j
def ni(p:Pl)(s:St)(b g:Nat)(seen:Int):St:=Vr p b (Gf s b g seen) (yd s) s.os.n (pi s b g seen)
def fo(p:Pl)(s:St)(bin good seen:Int):Int :=
 if ag p s=0 then(if inB bin 0 ((p.nb:Int)-1)&&inB good 0 ((p.ns:Int)-1)&&inB seen 0 200 then(if inB (s.sf.z good.toNat+(seen-(s.on.r bin.toNat).z good.toNat)) (-1048576) 1048576 then 0 else 2) else 3) else ag p s
theorem Al{b g:Int}{m:Hd}:ct b g m=true↔m.l=b/\m.o=g:=by unfold ct;simp
theorem xx{b g:Int}:ce s b g h=true↔h.b=b/\jw s h=g:=by unfold ce;simp
theorem ss(b g:Int):Mr (ct b g):=λ_ _=>rfl
theorem Cm(s:St)(b g:Int):Mr (ce s b g):=λ_ _=>rfl
theorem vl(s:St)(b g:Int):∀n,bj s b g n=fi (ct b g) (cy s.ms.z n)
 | 0=>rfl
 | n+1=>by
  show bj s b g n+_=fi (ct b g) (cy s.ms.z n)+_;rw[vl s b g n];by_cases c:(s.ms.z n).l=b/\(s.ms.z n).o=g
  .rw[if_pos c,if_pos (Al.2 c)]
  rw[if_neg c,if_neg (λe=>c (Al.1 e))]
theorem Eb(s:St)(b g:Int):∀n,ca s b g n=fi (ce s b g) (cy s.hs.z n)
 | 0=>rfl
 | n+1=>by
  show ca s b g n+_=fi (ce s b g) (cy s.hs.z n)+_;rw[Eb s b g n];by_cases c:(s.hs.z n).b=b/\jw s (s.hs.z n)=g
  .rw[if_pos c,if_pos (xx.2 c)]
  rw[if_neg c,if_neg (λe=>c (xx.1 e))]
theorem Fb(z:Nat->Hd)(o l:Int):∀n,keptS z o l n=fi (Bw o l) (cy z n)
 | 0=>rfl
 | n+1=>by
  show keptS z o l n+_=fi (Bw o l) (cy z n)+_;rw[Fb z o l n];by_cases c:(z n).o=o/\(z n).l=l
  .rw[if_pos c,if_pos (B0.2 c)]
  rw[if_neg c,if_neg (λe=>c (B0.1 e))]
theorem P1(h:Hs)(bad:Hd->Bool):cy (dz h bad).z (dz h bad).n=(cy h.z h.n).filter (λx => !bad x):=by
 rw[Jw,Jw,List.filter_reverse]
 congr 1
 exact Ng h bad
theorem Yx{h:Hs}{bad:Hd->Bool}(hi:i<(dz h bad).n):∃j,j<h.n/\(dz h bad).z i=h.z j/\bad (h.z j)=false:=by
 have a:(dz h bad).z i∈cy (dz h bad).z (dz h bad).n:=Td hi;rw[P1,List.mem_filter] at a;obtain⟨j,b,e⟩:=ye a.1;exact⟨j,b,e.symm,by rw[e];simpa using a.2⟩
theorem lw(f:Hd->Bool)(h:Hs)(m:Int):cy (cq f h m).z (cq f h m).n=flt (iz f m (cy h.z h.n)):=by
 unfold cq;rw[P1];show(cy (l7 f h.n m h.z) h.n).filter _=_;rw[L5]
 rfl
theorem Py{f:Hd->Bool}{h:Hs}{m:Int}(p:0<=m)(d:∀j,j<h.n->0<=(h.z j).n)(hi:i<(cq f h m).n):∃j,j<h.n/\((cq f h m).z i).o=(h.z j).o/\((cq f h m).z i).l=(h.z j).l/\((cq f h m).z i).b=(h.z j).b/\1<=((cq f h m).z i).n/\((cq f h m).z i).n<=(h.z j).n:=by
 obtain⟨j,c,e,g⟩:=Yx hi;have k:=G9 f h.n m h.z p d j;have q:(cq f h m).z i=l7 f h.n m h.z j:=e;have a:ts (l7 f h.n m h.z j)=false:=g;rw[q];unfold ts at a;have r:¬(l7 f h.n m h.z j).n=0:=by simpa using a
 have:=k.2.1 c;exact⟨j,c,k.1.1,k.1.2.1,k.1.2.2,by omega,k.2.2⟩
theorem Ub{f:Hd->Bool}{h:Hs}{m:Int}(g:0<=m)(b:ax h.n (db h.z)=false):ax (cq f h m).n (db (cq f h m).z)=false:=by
 have d:∀j,j<h.n->0<=(h.z j).n:=λj a=>by have:=(cz (cd b j a)).2.2.2;omega
 have k:=G9 f h.n m h.z g d;refine Jg (λi j c a => ?_) λi hi l => ?_
 .have e:∀q,ba ((ab2 f h m).z q)=ba (h.z q):=λq=>by
   show ba (l7 f h.n m h.z q)=_;unfold ba;rw[(k q).1.1,(k q).1.2.1,(k q).1.2.2]
  rw[e,e];exact nk b i j c a
 have q:=k i;have fn:=cz (cd b i hi);have o:¬(l7 f h.n m h.z i).n=0:=by
  have:ts (l7 f h.n m h.z i)=false:=l;unfold ts at this
  simpa using this
 have:=q.2.1 hi;show ie (l7 f h.n m h.z i)=true;unfold ie;rw[q.1.1,q.1.2.1,q.1.2.2,bw fn.1,bw fn.2.1,bw fn.2.2.1,bw (by omega)]
 rfl
section
variable {p:Pl} {s:St} {b g M:Int}
theorem ar.moves0(r:ar p s):∀h,h∈qh s->1<=h.n:=λh a=>by
 obtain⟨j,b,e⟩:=ye a;have:=r.fm.moveN j b;rw[<-e];omega
theorem ar.holds0(r:ar p s):∀h,h∈mq s->1<=h.n:=λh a=>by
 obtain⟨j,b,e⟩:=ye a;have:=r.fm.holdN j b;rw[<-e];omega
theorem ar.movesP(r:ar p s):xe (qh s):=λh a=>by have:=r.moves0 h a;omega
theorem ar.holdsP(r:ar p s):xe (mq s):=λh a=>by have:=r.holds0 h a;omega
theorem nj(r:ar p s)(a:0<=M):iu s b g M=M-min M (bj s b g s.ms.n)/\0<=iu s b g M:=by
 have e:=(ur (ss b g) r.movesP a).2;have k:=Cg (P:=ct b g) r.movesP;have d:iu s b g M=M-min M (fi (ct b g) (qh s)):=e;rw[vl];have c:fi (ct b g) (cy s.ms.z s.ms.n)=fi (ct b g) (qh s):=rfl;rw[c];omega
theorem Se(s:St)(b g M:Int)(o l:Int):keptS (je s b g M).hs.z o l (je s b g M).hs.n=keptS s.hs.z o l s.hs.n-ew s b g M o l:=by
 rw[Fb,Fb];show fi _ (cy (cq (ce s b g) s.hs (iu s b g M)).z (cq (ce s b g) s.hs (iu s b g M)).n)=_;rw[lw,vu,J4]
 rfl
theorem Br(r:ar p s)(a:0<=M)(o l:Int):0<=ew s b g M o l/\ew s b g M o l<=keptS s.hs.z o l s.hs.n:=by
 have c:=Kd (ce s b g) o l r.holdsP (nj (b:=b) (g:=g) r a).2;refine⟨c,?_⟩;have e:=Se s b g M o l;have d:0<=fi (Bw o l) (flt (iz (ce s b g) (iu s b g M) (mq s))):=by
  rw[vu];exact Cg (Bo _ r.holdsP (nj r a).2)
 rw[Fb] at e;have f:fi (Bw o l) (cy (je s b g M).hs.z (je s b g M).hs.n)=fi (Bw o l) (flt (iz (ce s b g) (iu s b g M) (mq s))):=by
  show fi _ (cy (cq (ce s b g) s.hs (iu s b g M)).z (cq (ce s b g) s.hs (iu s b g M)).n)=_;rw[lw]
  rfl
 omega
theorem Sd(r:ar p s)(j:0<=M)(e d:Int):ca (je s b g M) e d (je s b g M).hs.n=ca s e d s.hs.n-if e=b/\d=g then min (iu s b g M) (ca s b g s.hs.n) else 0:=by
 rw[Eb,Eb];have l:ce (je s b g M) e d=ce s e d:=rfl;rw[l];show fi _ (cy (cq (ce s b g) s.hs (iu s b g M)).z (cq (ce s b g) s.hs (iu s b g M)).n)=_;rw[lw,vu];have i:cy s.hs.z s.hs.n=mq s:=rfl;rw[i];by_cases c:e=b/\d=g
 .rw[if_pos c,c.1,c.2,(ur (Cm s b g) r.holdsP (nj (b:=b) (g:=g) r j).2).1,Eb]
  rfl
 rw[if_neg c,Int.sub_zero];exact Dn (λh k=>by
  cases m:ce s b g h
  .rfl
  have a:=xx.1 k;have f:=xx.1 m;exact absurd ⟨a.1.symm.trans f.1,a.2.symm.trans f.2⟩ c) (Cm s e d) _ _
theorem Sc(r:ar p s)(j:0<=M)(e d:Int):bj (je s b g M) e d (je s b g M).ms.n=bj s e d s.ms.n-if e=b/\d=g then min M (bj s b g s.ms.n) else 0:=by
 rw[vl,vl];show fi _ (cy (cq (ct b g) s.ms M).z (cq (ct b g) s.ms M).n)=_;rw[lw,vu];have i:cy s.ms.z s.ms.n=qh s:=rfl;rw[i];by_cases c:e=b/\d=g
 .rw[if_pos c,c.1,c.2,(ur (ss b g) r.movesP j).1,vl]
  rfl
 rw[if_neg c,Int.sub_zero];exact Dn (λh k=>by
  cases l:ct b g h
  .rfl
  have a:=Al.1 k;have f:=Al.1 l;exact absurd ⟨a.1.symm.trans f.1,a.2.symm.trans f.2⟩ c) (ss e d) _ _
theorem Qk(r:ar p s)(hi:i<s.os.n)(e:j<(s.os.z i).ls.n):keptS s.hs.z i j s.hs.n=0\/(s.os.z i).k=1/\((s.os.z i).ls.z j).b+((s.os.z i).ls.z j).n+keptS s.hs.z i j s.hs.n=((s.os.z i).ls.z j).l:=by
 have w:=r.orders i hi;unfold ch at w;rw[Xxq] at w;have a:cp (s.os.z i).k ((s.os.z i).ls.z j) (keptS s.hs.z i j s.hs.n)=false:=dk w.2 j e;have kd:=r.fm.kind i hi;unfold cp at a;by_cases c:(s.os.z i).k=0
 .rw[if_pos c] at a;simp only[Xxq,Bool.not_eq_false',beq_iff_eq] at a;exact Or.inl a.2
 rw[if_neg c] at a;by_cases d:(s.os.z i).k=2
 .rw[if_pos d] at a;simp only[Xxq,Bool.not_eq_false',beq_iff_eq] at a;exact Or.inl a.2
 rw[if_neg d] at a;simp only[Bool.not_eq_false',beq_iff_eq] at a;exact Or.inr ⟨by omega,a⟩
theorem Ha(r:ar p s)(t:0<=M):cx p (je s b g M):=by
 have f:=r.fm;have y:∀j,j<s.hs.n->0<=(s.hs.z j).n:=λj a=>by have:=f.holdN j a;omega
 have B:∀j,j<s.ms.n->0<=(s.ms.z j).n:=λj a=>by have:=f.moveN j a;omega
 have w:=(nj (b:=b) (g:=g) r t).2;refine⟨f.sh,f.sh0,f.os4,Qzx (Ad _ _) f.ms8,f.lns,f.kind,λi hi j a => ?_,Ub w f.hold,λi hi => ?_,λi hi => ?_,f.sin,f.son,f.sfn,f.sib,f.sob,f.sfb⟩
 .obtain⟨b1,b2,b3,b4⟩:=er (f.line i hi j a);have q:=Br (b:=b) (g:=g) r t i j;have k:=Qk r hi a;show ki p (uv ((s.os.z i).ls.z j) (ew s b g M i j))=false;unfold ki uv;rw[bw (by dsimp only;omega),bw (by dsimp only;omega),bw (by dsimp only;omega),bw (by dsimp only;omega)]
  rfl
 .obtain⟨j,a,u,m,v,-,-⟩:=Py w y hi;have h:=i8 (f.home j a);have c:((je s b g M).hs.z i).o=(s.hs.z j).o:=u;have e:((je s b g M).hs.z i).l=(s.hs.z j).l:=m;have d:((je s b g M).hs.z i).b=(s.hs.z j).b:=v;refine qf ?_ ?_ ?_
  .rw[c];exact h.1
  .rw[c,e];exact h.2.1
  rw[d];exact h.2.2
 obtain⟨j,a,u,m,v,A,x⟩:=Py t B hi;have h:=rv (f.move j a);have c:((je s b g M).ms.z i).o=(s.ms.z j).o:=u;have e:((je s b g M).ms.z i).l=(s.ms.z j).l:=m;have d:((je s b g M).ms.z i).b=(s.ms.z j).b:=v;have D:1<=((je s b g M).ms.z i).n:=A;have E:((je s b g M).ms.z i).n<=(s.ms.z j).n:=x
 generalize (je s b g M).ms.z i=X at *
 unfold mp;rw[c,e,d,bw (by omega),bw (by omega),bw (by omega),bw (by omega)]
 simpa using h.2.2.2.1
theorem V7(r:ar p s)(f:0<=M)(i:Nat)(hi:i<s.os.n):ch (je s b g M) i=false:=by
 have w:=r.orders i hi;unfold ch at w ⊢;rw[Xxq] at w ⊢;refine⟨w.1,cu λj e => ?_⟩;have a:cp (s.os.z i).k ((s.os.z i).ls.z j) (keptS s.hs.z i j s.hs.n)=false:=dk w.2 j e;rw[Se];show cp (s.os.z i).k (uv ((s.os.z i).ls.z j) (ew s b g M i j)) _=false;have q:=Br (b:=b) (g:=g) r f i j;unfold cp uv at *;by_cases c:(s.os.z i).k=0
 .rw[if_pos c] at a ⊢;simp only[Xxq,Bool.not_eq_false',beq_iff_eq] at a ⊢;omega
 rw[if_neg c] at a ⊢;by_cases d:(s.os.z i).k=2
 .rw[if_pos d] at a ⊢;simp only[Xxq,Bool.not_eq_false',beq_iff_eq] at a ⊢;omega
 rw[if_neg d] at a ⊢;simp only[Bool.not_eq_false',beq_iff_eq] at a ⊢;omega
end
section
variable {p:Pl} {s:St} {b g:Nat} {M seen:Int}
theorem P0(r:ar p s)(a:0<=M)(c k:Nat):aw (je s b g M) c k=aw s c k+if c=b/\k=g then min M (oq s b g) else 0:=by
 have i:=Sd (b:=b) (g:=g) r a c k;have h:=Sc (b:=b) (g:=g) r a c k;have d:=nj (b:=b) (g:=g) r a;have l:=(nw (s:=s) (b:=b) (g:=g) (n:=s.hs.n) r.fm.holdN).1;have j:=(jx (s:=s) (b:=b) (g:=g) (n:=s.ms.n) r.fm.moveN).1;unfold aw oq;rw[i,h];show(s.on.r c).z k-_-_=_;by_cases e:c=b/\k=g
 .rw[if_pos e,if_pos (by omega),if_pos (by omega),d.1];omega
 rw[if_neg e,if_neg (λf=>e (by omega)),if_neg (λf=>e (by omega))];omega
theorem Yt(r:ar p s)(a:0<=M):ar p (je s b g M):=by
 refine⟨Ha r a,λk e => ?_,λi hi=>V7 r a i hi⟩;obtain⟨a1,d⟩:=ld (r.goods k e);refine ti a1 λc hc => ?_;rw[P0 r a];have:=d c hc;have h:=(nw (s:=s) (b:=b) (g:=g) (n:=s.hs.n) r.fm.holdN).1;have f:=(jx (s:=s) (b:=b) (g:=g) (n:=s.ms.n) r.fm.moveN).1;unfold oq
 split<;>omega
theorem tv(s:St)(b g:Nat)(seen:Int)(i j:Nat):((ju s b g seen).on.r i).z j=if i=b/\j=g then seen else(s.on.r i).z j:=Cx s b g seen i j
theorem Le(s:St)(b g:Nat)(seen:Int)(c k:Nat):aw (ju s b g seen) c k=aw s c k+if c=b/\k=g then seen-(s.on.r b).z g else 0:=by
 have a:ca (ju s b g seen) c k (ju s b g seen).hs.n=ca s c k s.hs.n:=sw (x:=ju s b g seen) (s:=s) (λ_ _=>rfl) (λ_ _=>rfl);have d:bj (ju s b g seen) c k (ju s b g seen).ms.n=bj s c k s.ms.n:=pr (x:=ju s b g seen) (s:=s) (λ_ _=>rfl);unfold aw;rw[a,d,tv];by_cases e:c=b/\k=g
 .rw[if_pos e,if_pos e,e.1,e.2];omega
 rw[if_neg e,if_neg e];omega
theorem Uh(r:ar p s)(v:b<p.nb)(y:g<p.ns)(x:0<=seen)(w:seen<=200)(u : -1048576<=s.sf.z g+(seen-(s.on.r b).z g)/\s.sf.z g+(seen-(s.on.r b).z g)<=1048576)(h:0<=aw s b g+(seen-(s.on.r b).z g)):ar p (ju s b g seen):=by
 have f:=r.fm;have d:vz p (ju s b g seen).on:=⟨f.sh.pl,f.sh.n,λi hi=>(s9 s b g seen i).trans (f.sh.len i hi),λi hi j a=>by
  rw[tv];have o:=f.sh.num i hi j a;by_cases c:i=b/\j=g
  .rw[if_pos c];omega
  rw[if_neg c];exact o⟩
 refine⟨⟨d,yg (wh f.sh0).1 d,f.os4,f.ms8,f.lns,f.kind,f.line,f.hold,f.home,f.move,f.sin,f.son,f.sfn,f.sib,f.sob,λj a => ?_⟩,λk t => ?_,r.orders⟩
 .show -1048576<=(if j=g then _ else s.sf.z j)/\(if j=g then _ else s.sf.z j)<=1048576;have:=f.sfb j a
  split
  .exact u
  exact this
 obtain⟨a1,l⟩:=ld (r.goods k t);refine ti ?_ λc hc => ?_
 .show cv _ s.on.n=s.si.z k-s.so.z k+(if k=g then _ else s.sf.z k);by_cases q:k=g
  .rw[if_pos q];have e:=tq (z:=λi=>(s.on.r i).z k) (z':=λi=>((ju s b g seen).on.r i).z k) (m:=b) (n:=seen-(s.on.r b).z g) (k:=s.on.n) (by rw[f.sh.n];exact v) (λi hi=>by
    rw[tv];by_cases c:i=b
    .rw[if_pos ⟨c,q⟩,if_pos c,c,q];omega
    rw[if_neg (λe=>c e.1),if_neg c,Int.add_zero])
   rw[e,a1,q];show _=_-_+(s.sf.z g+(seen-(s.on.r b).z g));omega
  rw[if_neg q,<-a1];exact uh λi hi=>by rw[tv,if_neg (λe=>q e.2)]
 rw[Le];have:=l c hc;by_cases e:c=b/\k=g
 .rw[if_pos e,e.1,e.2];exact h
 rw[if_neg e];omega
structure dg(p:Pl)(s:St)(b g:Nat)(seen:Int):Prop where
 r:ar p s
 bn:b<p.nb
 gn:g<p.ns
 s0:0<=seen
 s1:seen<=200
 fx : -1048576<=s.sf.z g+(seen-(s.on.r b).z g)/\s.sf.z g+(seen-(s.on.r b).z g)<=1048576
theorem U1{bin good:Int}(h:fo p s bin good seen=0):ag p s=0/\∃b g:Nat,bin=b/\good=g/\dg p s b g seen:=by
 unfold fo at h;by_cases c:ag p s=0
 .rw[if_pos c] at h;cases a:(inB bin 0 ((p.nb:Int)-1)&&inB good 0 ((p.ns:Int)-1)&&inB seen 0 200)
  .rw[a,if_neg (by decide)] at h;exact absurd h (by decide)
  rw[a] at h;simp only[Xxx] at a;have j:=au a.1.1;have f:=au a.1.2;have d:=au a.2;cases e:inB (s.sf.z good.toNat+(seen-(s.on.r bin.toNat).z good.toNat)) (-1048576) 1048576
  .rw[e] at h;exact absurd h (by decide)
  have i:=au e;obtain⟨b,rfl⟩:=Qzz j.1;obtain⟨g,rfl⟩:=Qzz f.1;exact⟨c,b,g,rfl,rfl,dp c,by omega,by omega,d.1,d.2,i⟩
 rw[if_neg c] at h;exact absurd h c
theorem dg.miss0(h:dg p s b g seen):0<=ey s b g seen:=by unfold ey;omega
theorem dg.bound(h:dg p s b g seen):0<=oq s b g/\oq s b g=(s.on.r b).z g-aw s b g:=by
 have c:=(nw (s:=s) (b:=b) (g:=g) (n:=s.hs.n) h.r.fm.holdN).1;have a:=(jx (s:=s) (b:=b) (g:=g) (n:=s.ms.n) h.r.fm.moveN).1;unfold oq aw;omega
theorem dg.cutAv(h:dg p s b g seen):aw (je s b g (ey s b g seen)) b g=aw s b g+ey s b g seen:=by
 rw[P0 h.r h.miss0,if_pos ⟨rfl,rfl⟩];have:=h.bound;have:=h.s0;unfold ey;omega
theorem dg.right(h:dg p s b g seen):ar p (pi s b g seen):=by
 refine Uh (Yt h.r h.miss0) h.bn h.gn h.s0 h.s1 h.fx ?_;rw[h.cutAv];show 0<=_+(seen-(s.on.r b).z g);have:=h.bound;unfold ey;omega
theorem dg.av(h:dg p s b g seen):aw (pi s b g seen) b g=max (seen-oq s b g) 0:=by
 unfold pi;rw[Le,if_pos ⟨rfl,rfl⟩,h.cutAv];show _+(seen-(s.on.r b).z g)=_;have:=h.bound;unfold ey;omega
theorem dg.qin(h:dg p s b g seen):QIn p b (Gf s b g seen) (pi s b g seen):=by
 refine⟨h.right,λi j hi d => ?_,Or.inr ⟨by omega,by have:=h.bn;omega⟩⟩;have a:i<s.os.n:=hi;have c:j<(s.os.z i).ls.n:=d;have q:=Br (b:=b) (g:=g) (M:=ey s b g seen) h.r h.miss0 i j;refine⟨q.1,?_⟩;have e:=(er (h.r.fm.line i a j c)).2.2.2;rcases Qk h.r a c with k|k
 .exact Or.inl (by show ew s b g (ey s b g seen) i j=0;omega)
 refine Or.inr ⟨k.1,?_⟩;show ew s b g (ey s b g seen) i j<=((s.os.z i).ls.z j).n+ew s b g (ey s b g seen) i j;omega
theorem dg.all(h:dg p s b g seen):iq p b (Gf s b g seen) (yd s) (pi s b g seen) s.os.n (ni p s b g seen):=L4 h.qin (λ_ _=>rfl) (Nat.le_refl s.os.n)
theorem dg.pos(h:dg p s b g seen):Pos p b (Gf s b g seen) (pi s b g seen) s.os.n 0 (ni p s b g seen):=iq.pos h.qin (λ_ _=>rfl) (Nat.le_refl s.os.n) h.all
theorem Fx(h:dg p s b g seen):ar p (ni p s b g seen):=h.pos.al.r
end
section
variable {p:Pl} {s x:St} {b g:Nat} {seen:Int}
theorem Wr(x:Hd):uv x 0=x:=by unfold uv;rw[Int.add_zero]
theorem Nc{f:Hd->Bool}{h:Hs}(a:∀y,y∈cy h.z h.n->1<=y.n):(cq f h 0).n=h.n/\∀j,j<(cq f h 0).n->(cq f h 0).z j=h.z j:=by
 have e:=lw f h 0;rw[Ez f (λy b=>by have:=a y b;omega),Kf a] at e;exact Ag e
theorem Sf(r:ar p s)(b g:Int):af (je s b g 0) s:=by
 have l0:iu s b g 0=0:=by
  have a:=nj (b:=b) (g:=g) r (Int.le_refl 0);have c:=(jx (s:=s) (b:=b) (g:=g) (n:=s.ms.n) r.fm.moveN).1;omega
 have q0:∀o l,ew s b g 0 o l=0:=λo l=>by
  unfold ew;rw[l0];exact Cu _ _ _ r.holdsP
 refine⟨⟨rfl,λ_ _=>⟨rfl,λ_ _=>rfl⟩⟩,⟨rfl,λi _=>⟨rfl,rfl,λj _ => ?_⟩⟩,?_,Nc r.moves0,⟨rfl,λ_ _=>rfl⟩,⟨rfl,λ_ _=>rfl⟩,⟨rfl,λ_ _=>rfl⟩⟩
 .show uv ((s.os.z i).ls.z j) (ew s b g 0 i j)=_;rw[q0,Wr]
 show(cq (ce s b g) s.hs (iu s b g 0)).n=_/\∀j,j<(cq (ce s b g) s.hs (iu s b g 0)).n->(cq (ce s b g) s.hs (iu s b g 0)).z j=_;rw[l0];exact Nc r.holds0
theorem iq.skip{but:Int}{q:Nat->Nat->Int}{m:Nat->Nat}(Q:QIn p but q s)(c:∀a,a<s.os.n->m a=(s.os.z a).ls.n)(d:∀a b,a<s.os.n->b<(s.os.z a).ls.n->q a b=0):∀{i:Nat},i<=s.os.n->iq p but q m s i s
 | 0,_=>af.self s
 | i+1,hi=>by
  have T:=iq.skip Q c d (i:=i) (by omega);exact⟨s,T,lm.skip Q (iq.pos Q c (by omega) T) (by omega) (by rw[c i (by omega)];exact Nat.le_refl _) λb e=>d i b (by omega) (by rw[<-c i (by omega)];exact e)⟩
theorem La(h:dg p s b g seen)(d:ey s b g seen=0):af (ni p s b g seen) (ju s b g seen):=by
 have Q:=h.qin;have q0:∀a c,a<(pi s b g seen).os.n->c<((pi s b g seen).os.z a).ls.n->Gf s b g seen a c=0:=λa c _ _=>by
  have k:=Br (b:=b) (g:=g) (M:=ey s b g seen) h.r h.miss0 a c;unfold Gf ew;rw[d];have l0:iu s b g 0=0:=by
   have e:=nj (b:=b) (g:=g) h.r (Int.le_refl 0);have c:=(jx (s:=s) (b:=b) (g:=g) (n:=s.ms.n) h.r.fm.moveN).1;omega
  rw[l0];exact Cu _ _ _ h.r.holdsP
 have T:=iq.skip (m:=yd s) Q (λ_ _=>rfl) q0 nlr;have i:af (ni p s b g seen) (pi s b g seen):=iq.same Q (λ_ _=>rfl) (Nat.le_refl s.os.n) T h.all;refine i.trans ?_;have c:=Sf h.r b g;unfold pi ju;rw[d];have j:((je s b g 0).on.r b).z g=(s.on.r b).z g:=rfl;have f:(je s b g 0).sf.z g=s.sf.z g:=rfl;rw[j,f];exact⟨⟨rfl,λ_ _=>⟨rfl,λ_ _=>rfl⟩⟩,c.os,c.hs,c.ms,⟨rfl,λ_ _=>rfl⟩,⟨rfl,λ_ _=>rfl⟩,⟨rfl,λ_ _=>rfl⟩⟩
theorem Wf(h:(s.on.r b).z g=seen):af (ju s b g seen) s:=by
 refine⟨⟨rfl,λi _=>⟨s9 s b g seen i,λj _ => ?_⟩⟩,⟨rfl,λ_ _=>⟨rfl,rfl,λ_ _=>rfl⟩⟩,⟨rfl,λ_ _=>rfl⟩,⟨rfl,λ_ _=>rfl⟩,⟨rfl,λ_ _=>rfl⟩,⟨rfl,λ_ _=>rfl⟩,⟨rfl,λj _ => ?_⟩⟩
 .rw[tv];by_cases c:i=b/\j=g
  .rw[if_pos c,c.1,c.2,h]
  rw[if_neg c]
 show(if j=g then s.sf.z g+(seen-(s.on.r b).z g) else s.sf.z j)=s.sf.z j;by_cases c:j=g
 .rw[if_pos c,h,c];omega
 rw[if_neg c]
theorem Px(h:dg p s b g seen):fo p s b g seen=0:=by
 have i:=h.bn;have f:=h.gn;have c:=h.s0;have d:=h.s1;unfold fo;rw[if_pos (j8 h.r),bw (by omega),bw (by omega),bw (by omega)];have e:(Int.toNat (b:Int))=b:=rfl;have a:(Int.toNat (g:Int))=g:=rfl;rw[e,a,bw h.fx]
 rfl
theorem dg.onS(h:dg p s b g seen)(i j:Nat):((pi s b g seen).on.r i).z j=if i=b/\j=g then seen else(s.on.r i).z j:=tv (je s b g (ey s b g seen)) b g seen i j
theorem dg.on(h:dg p s b g seen)(e:af x (ni p s b g seen)):x.on.n=s.on.n/\∀i,i<s.on.n->(x.on.r i).n=(s.on.r i).n/\∀j,j<(s.on.r i).n->(x.on.r i).z j=if i=b/\j=g then seen else(s.on.r i).z j:=by
 have a:=h.pos.al.on;have d:x.on.n=s.on.n:=e.on.1.trans a.1;refine⟨d,λi hi => ?_⟩;have k:=e.on.2 i (by rw[d];exact hi);have a1:=a.2 i (by rw[a.1];exact hi);have c:((pi s b g seen).on.r i).n=(s.on.r i).n:=s9 (je s b g (ey s b g seen)) b g seen i;have l:(x.on.r i).n=(s.on.r i).n:=k.1.trans (a1.1.trans c);refine⟨l,λj f => ?_⟩;rw[k.2 j (by rw[l];exact f),a1.2 j (by rw[a1.1,c];exact f),h.onS]
theorem dg.got(h:dg p s b g seen)(e:af x (ni p s b g seen)):x.os.n=s.os.n/\∀o,o<s.os.n->(x.os.z o).ls.n=(s.os.z o).ls.n/\∀k,k<(s.os.z o).ls.n->((x.os.z o).ls.z k).b=((s.os.z o).ls.z k).b:=by
 have a:=h.pos.al;have f:x.os.n=s.os.n:=e.os.1.trans a.osn;refine⟨f,λo d => ?_⟩;have c:=e.os.2 o (by rw[f];exact d);have j:((ni p s b g seen).os.z o).ls.n=(s.os.z o).ls.n:=(a.kind o d).2;refine⟨c.2.1.trans j,λk i => ?_⟩;rw[c.2.2 k (by rw[c.2.1,j];exact i),(a.line o d k i).2.2]
 rfl
theorem dg.num(h:dg p s b g seen)(e:af x (ni p s b g seen)):(x.on.r b).z g=seen:=by
 have a:b<s.on.n:=by rw[h.r.fm.sh.n];exact h.bn
 have l:=h.r.fm.sh.len b a;have k:=((h.on e).2 b a).2 g (by rw[l];exact h.gn);rw[k,if_pos ⟨rfl,rfl⟩]
theorem dg.again(h:dg p s b g seen)(e:af x (ni p s b g seen)):dg p x b g seen/\af (ni p x b g seen) x:=by
 have c:ar p x:=e.right (Fx h);have n:=h.num e;have f:=c.fm.sfb g h.gn;have I:dg p x b g seen:=⟨c,h.bn,h.gn,h.s0,h.s1,by rw[n];omega⟩;refine⟨I,?_⟩;have m:ey x b g seen=0:=by
  have k:=I.bound;have a:=(ld (c.goods g h.gn)).2 b h.bn;unfold ey;rw[k.2,n];omega
 exact(La I m).trans (Wf n)
theorem dg.left(h:dg p s b g seen)(e:af x (ni p s b g seen)):aw x b g=max (seen-oq s b g) 0:=by
 rw[e.avail (Fx h).fm h.bn h.gn,(h.pos.al.av b g h.bn h.gn).2 rfl,h.av]
theorem dg.more(h:dg p s b g seen)(e:af x (ni p s b g seen))(a:(s.on.r b).z g-aw s b g<=seen):(x.hs.n=s.hs.n/\∀j,j<x.hs.n->x.hs.z j=s.hs.z j)/\x.ms.n=s.ms.n/\∀j,j<x.ms.n->x.ms.z j=s.ms.z j:=by
 have m:ey s b g seen=0:=by
  have k:=h.bound;unfold ey;omega
 have k:=e.trans (La h m);exact⟨k.hs,k.ms⟩
theorem Jy{h k:Hs}(b:h.n=k.n)(a:∀j,j<h.n->h.z j=k.z j):cy h.z h.n=cy k.z k.n:=by
 rw[<-b];exact pk a
theorem Je{f g:Hd->Bool}:∀{R:List Hd} {m:Int},(∀x,x∈R->f x=g x)->iz f m R=iz g m R
 | [],_,_=>rfl
 | h :: R,m,e=>by
  show(if f h then _ else _)=if g h then _ else _;rw[e h List.mem_cons_self,Je (m:=m-min m h.n) λx hx=>e x (List.mem_cons_of_mem _ hx),Je (m:=m) λx hx=>e x (List.mem_cons_of_mem _ hx)]
theorem Jf{f g:Hd->Bool}{o l:Int}:∀{R:List Hd} {m:Int},(∀x,x∈R->f x=g x)->lr f m R o l=lr g m R o l
 | [],_,_=>rfl
 | h :: R,m,e=>by
  show(if f h then _ else _)=if g h then _ else _;rw[e h List.mem_cons_self,Jf (m:=m-min m h.n) λx hx=>e x (List.mem_cons_of_mem _ hx),Jf (m:=m) λx hx=>e x (List.mem_cons_of_mem _ hx)]
theorem Pz(f:cx p s)(e:af y s)(b g M:Int):af (je y b g M) (je s b g M)/\∀o l,ew y b g M o l=ew s b g M o l:=by
 have h:qh y=qh s:=Jy e.ms.1 e.ms.2;have r:mq y=mq s:=Jy e.hs.1 e.hs.2;have k:iu y b g M=iu s b g M:=by unfold iu;rw[h]
 have d:∀x,x∈mq s->ce y b g x=ce s b g x:=λx hx=>by
  obtain⟨j,a,rfl⟩:=ye hx;obtain⟨A,D,-⟩:=i8 (f.home j a);unfold ce jw;rw[e.line A.2 D.2]
 have q:∀o l,ew y b g M o l=ew s b g M o l:=λo l=>by
  unfold ew;rw[k,r];exact Jf d
 have u:cy (cq (ce y b g) y.hs (iu y b g M)).z (cq (ce y b g) y.hs (iu y b g M)).n=cy (cq (ce s b g) s.hs (iu s b g M)).z (cq (ce s b g) s.hs (iu s b g M)).n:=by
  rw[lw,lw,k];have c:cy y.hs.z y.hs.n=cy s.hs.z s.hs.n:=r;have v:iz (ce y b g) (iu s b g M) (cy s.hs.z s.hs.n)=iz (ce s b g) (iu s b g M) (cy s.hs.z s.hs.n):=Je d;rw[c,v]
 have B:cy (cq (ct b g) y.ms M).z (cq (ct b g) y.ms M).n=cy (cq (ct b g) s.ms M).z (cq (ct b g) s.ms M).n:=by
  rw[lw,lw];have c:cy y.ms.z y.ms.n=cy s.ms.z s.ms.n:=h;rw[c]
 refine⟨⟨e.on,⟨e.os.1,λi hi => ?_⟩,Ag u,Ag B,e.si,e.so,e.sf⟩,q⟩;have m:i<y.os.n:=hi;have w:=e.os.2 i m;refine⟨w.1,w.2.1,λj a => ?_⟩;have t:j<(y.os.z i).ls.n:=a;show uv ((y.os.z i).ls.z j) (ew y b g M i j)=uv ((s.os.z i).ls.z j) (ew s b g M i j);rw[w.2.2 j t,q]
theorem We{a c:St}(e:af a c){seen:Int}(h:(a.on.r b).z g=(c.on.r b).z g)(i:a.sf.z g=c.sf.z g):af (ju a b g seen) (ju c b g seen):=by
 have k:=zd e b g seen;refine⟨k.on,k.os,k.hs,k.ms,k.si,k.so,⟨k.sf.1,λj f => ?_⟩⟩;have d:j<a.sf.n:=f;show(if j=g then a.sf.z g+(seen-(a.on.r b).z g) else a.sf.z j)=if j=g then c.sf.z g+(seen-(c.on.r b).z g) else c.sf.z j;rw[h,i,e.sf.2 j d]
theorem QIn.same{but:Int}{q f:Nat->Nat->Int}(Q:QIn p but q s)(e:af y s)(i:∀a b,a<s.os.n->b<(s.os.z a).ls.n->f a b=q a b):QIn p but f y:=by
 refine⟨e.right Q.r,λa b g h => ?_,Q.bt⟩;have c:a<s.os.n:=by rw[<-e.os.1];exact g
 have k:=e.os.2 a g;have d:b<(s.os.z a).ls.n:=by rw[<-k.2.1];exact h
 rw[i a b c d,k.1,k.2.2 b h];exact Q.q0 a b c d
end
section
variable {p:Pl} {s x:St} {o l b:Nat} {n:Int}
structure Ga(p:Pl)(s x:St)(o l b:Nat)(n:Int):Prop where
 r:ar p x
 osn:x.os.n=s.os.n
 lns:∀i,i<s.os.n->(x.os.z i).ls.n=(s.os.z i).ls.n
 other:∀i,i<s.os.n->∀j,j<(s.os.z i).ls.n->¬(i=o/\j=l)->(x.os.z i).ls.z j=(s.os.z i).ls.z j/\keptS x.hs.z i j x.hs.n=keptS s.hs.z i j s.hs.n
 mine:((x.os.z o).ls.z l).b=((s.os.z o).ls.z l).b+n/\((x.os.z o).ls.z l).o=((s.os.z o).ls.z l).o
 closed:((x.os.z o).k==2) = !ax (x.os.z o).ls.n (λj=>jy ((x.os.z o).ls.z j))
 kind:(x.os.z o).k=1\/(x.os.z o).k=2
 gone:keptV x.hs.n x.hs.z o l b=0
 short:((s.os.z o).ls.z l).n<((x.os.z o).ls.z l).n->∀c:Nat,c<p.nb->¬c=b->aw x c (bu s o l)=0
theorem af.keptV(h:af x s)(a b c:Int):Go.Proofs.YtbcacebifpagpagGreat.keptV x.hs.n x.hs.z a b c=Go.Proofs.YtbcacebifpagpagGreat.keptV s.hs.n s.hs.z a b c:=by
 rw[h.hs.1];exact zy (λj d=>h.hs.2 j (by rw[h.hs.1];exact d)) a b c
theorem Ga.same(h:Ga p s y o l b n)(e:af x y)(d:o<s.os.n)(g:l<(s.os.z o).ls.n)(q:bu s o l<p.ns):Ga p s x o l b n:=by
 have k:∀i,i<s.os.n->i<x.os.n:=λi hi=>by rw[e.os.1,h.osn];exact hi
 have f:=e.os.2 o (k o d);have ln:∀i,i<s.os.n->∀j,j<(s.os.z i).ls.n->(x.os.z i).ls.z j=(y.os.z i).ls.z j:=λi hi j a=>e.line (by rw[h.osn];exact hi) (by rw[h.lns i hi];exact a);refine⟨e.right h.r,e.os.1.trans h.osn,λi hi=>(e.os.2 i (k i hi)).2.1.trans (h.lns i hi),λi hi j a t => ?_,?_,?_,?_,?_,λhs c hc m => ?_⟩
 .rw[ln i hi j a,e.kept];exact h.other i hi j a t
 .rw[ln o d l g];exact h.mine
 .rw[f.1,h.closed,f.2.1];exact congrArg not (pe λj a=>by rw[ln o d j (by rw[<-h.lns o d];exact a)])
 .rw[f.1];exact h.kind
 .rw[e.keptV];exact h.gone
 rw[ln o d l g] at hs;rw[e.avail h.r.fm hc q];exact h.short hs c hc m
theorem Ga.sum(h:Ga p s x o l b n)(d:o<x.os.n)(c:l<(x.os.z o).ls.n):((x.os.z o).ls.z l).b+((x.os.z o).ls.z l).n+keptS x.hs.z o l x.hs.n=((x.os.z o).ls.z l).l:=by
 rcases h.kind with k|k
 .exact(L9 h.r d c k).1
 have w:=h.r.orders o d;unfold ch at w;rw[Xxq] at w;have a:cp (x.os.z o).k ((x.os.z o).ls.z l) (keptS x.hs.z o l x.hs.n)=false:=dk w.2 l c;unfold cp at a;rw[k,if_neg (by decide),if_pos rfl] at a;simp only[Xxq,Bool.not_eq_false',beq_iff_eq] at a;omega
end
theorem l6.none{but:Int}{n:Int}(h:i6 p y i j n)(f:∀c:Nat,c<p.nb->¬((c:Nat):Int)=but->aw y c ((y.os.z i).ls.z j).o.toNat=0)(T:l6 p but y i j n x):af x y:=by
 have k:=h.tkw (but:=but);have b:∀c,(Tk.go (avT y i j) n (fg p but)).took c=0:=λc=>by
  by_cases a:c∈fg p but
  .have w:=km.way _ a;have u:=f c.toNat (by omega) (by rw[show((c.toNat:Nat):Int)=c by omega];exact(yi.1 a).2);have v:=k.had _ a;have g:=k.took0 c;have d:avT y i j c=0:=u;rw[d] at v;omega
  exact k.other _ a
 have e:=k.sum;rw[vv λc hc=>b c] at e;exact ep.same T (ep.congr (ep.start (n:=n) h.fm.hold (af.self y)) (show(Tk.go (avT y i j) n (fg p but)).left=n by omega) b)
section
variable {p:Pl} {s x z:St}
theorem ka.kind(r:ar p s)(h:ka p s x)(hi:i<x.os.n):¬(x.os.z i).k=0/\(x.os.z i).ls.n=(s.os.z i).ls.n:=by
 have P:=h.pos r;have hs:i<s.os.n:=by have:=P.al.osn;exact this▸hi
 have k:=P.al.kind i hs;refine⟨λe => ?_,k.2.trans (nd s i).symm⟩;rw[k.1] at e;have a:(im s.os.n i (s.os.z i)).k=0:=e;unfold im at a;by_cases c:i<s.os.n/\(s.os.z i).k=0
 .rw[if_pos c] at a;cases a
 rw[if_neg c] at a;exact c ⟨hs,a⟩
theorem ka.none(r:ar p s)(h:ka p s x)(hi:i<x.os.n)(b:j<(x.os.z i).ls.n)(d:(x.os.z i).k=1)(e:0<((x.os.z i).ls.z j).n)(hc:c<p.nb):aw x c ((x.os.z i).ls.z j).o.toNat=0:=by
 have P:=h.pos r;have hs:i<s.os.n:=by have:=P.al.osn;exact this▸hi
 have k:=P.al.kind i hs;have a:j<((dh s s.os.n).os.z i).ls.n:=by rw[<-k.2];exact b
 have q:qt s i j=(((dh s s.os.n).os.z i).ls.z j).n:=if_pos (k.1.symm.trans d);rw[(P.al.line i hs j a).1];exact P.none i j hs a (Or.inl hs) q e c hc (by omega)
theorem Xi(r:ar p s)(h:ka p s x):dh x x.os.n=x:=by
 unfold dh;have e:(λi=>im x.os.n i (x.os.z i))=x.os.z:=funext λi=>if_neg (λe=>(h.kind r e.1).1 e.2);rw[e]
theorem ka.again(r:ar p s)(h:ka p s x)(k:ka p x z):af x z:=by
 have m:=(h.pos r).al.r;have e:=Xi r h;have Q:=xd m;have w:∀a,a<(dh x x.os.n).os.n->yd x a=((dh x x.os.n).os.z a).ls.n:=λa _=>nd x a;have row:∀i,i<x.os.n->∀y,af y x->Pos p (-1) (qt x) (dh x x.os.n) i 0 y->∀j,j<=(x.os.z i).ls.n->∀f,lm p (-1) (qt x) i y j f->af f x:=λi hi y o P j=>by
  induction j with
  | zero =>
   intro _ f t;have A:f=y:=t;rw[A];exact o
  | succ j ih =>
   intro q f ⟨u,hu,T⟩;have g:=ih (by omega) u hu;have I:=(lm.pos Q P hi (by rw[<-nd];show j<=(x.os.z i).ls.n;omega) hu).stepIn Q hi (by rw[<-nd];exact q);have d:j<(x.os.z i).ls.n:=by omega
   by_cases b:qt x i j=0
   .rw[b] at I T;exact(l6.zero I.tki T).trans g
   have v:qt x i j=((x.os.z i).ls.z j).n/\(x.os.z i).k=1:=by
    unfold qt at b ⊢;rw[e] at b ⊢;by_cases c:(x.os.z i).k=1
    .rw[if_pos c];exact⟨rfl,c⟩
    rw[if_neg c] at b;exact absurd rfl b
   have q0:=I.n0;refine(l6.none I.tki (λc hc _ => ?_) T).trans g;have B:=(er (m.fm.line i hi j d)).1;rw[g.line hi d,g.avail m.fm hc (by omega)];exact h.none r hi d v.2 (by omega) hc
 have all:∀i,i<=x.os.n->∀y,iq p (-1) (qt x) (yd x) (dh x x.os.n) i y->af y x:=λi=>by
  induction i with
  | zero =>
   intro _ y o;have l:af y (dh x x.os.n):=o;rw[e] at l;exact l
  | succ i ih =>
   intro hi y ⟨u,hu,hr⟩;exact row i (by omega) u (ih (by omega) u hu) (iq.pos Q w (Nat.le_of_succ_le hi) hu) (yd x i) nlr y hr
 exact(all x.os.n nlr z k).symm
theorem ka.first(r:ar p s)(h:ka p s x){a d:Nat}(l:a<c)(e:c<s.os.n)(t:b<(s.os.z a).ls.n)(i:d<(s.os.z c).ls.n)(m:(x.os.z a).k=1)(u:¬((x.os.z a).ls.z b).n=0)(j:((x.os.z a).ls.z b).o=((x.os.z c).ls.z d).o):keptS x.hs.z c d x.hs.n=keptS s.hs.z c d s.hs.n:=by
 have P:=h.pos r;have hs:a<s.os.n:=by omega
 have k:=P.al.kind a hs;have f:b<((dh s s.os.n).os.z a).ls.n:=by rw[<-nd];exact t
 have g:d<((dh s s.os.n).os.z c).ls.n:=by rw[<-nd];exact i
 have q:qt s a b=(((dh s s.os.n).os.z a).ls.z b).n:=if_pos (k.1.symm.trans m);have n0:=(Bd P.al.r (by rw[P.al.osn];exact hs) (by rw[k.2];exact f)).1;rw[(P.al.line a hs b f).1,(P.al.line c e d g).1] at j;exact P.first a b hs f c d e g (Or.inl l) (Or.inl e) q (by omega) j
end
theorem Ci(s:St)(o:Nat)(a b c:Int):keptV (ed s o).hs.n (ed s o).hs.z a b c=if a=o then 0 else keptV s.hs.n s.hs.z a b c:=by
 by_cases h:a=o
 .rw[if_pos h];exact(Nf s.hs (λx=>x.o==(o:Int)) (B:=true) (λx d=>by rw[(fk d).1,h];simp)).trans (if_pos rfl)
 rw[if_neg h];exact(Nf s.hs (λx=>x.o==(o:Int)) (B:=false) (λx d=>by rw[(fk d).1];simpa using h)).trans (if_neg (by decide))
theorem I6(d:ax s.hs.n (db s.hs.z)=false)(o:Nat)(a b:Int):keptS (ed s o).hs.z a b (ed s o).hs.n=if a=o then 0 else keptS s.hs.z a b s.hs.n:=by
 have hx:ax (ed s o).hs.n (db (ed s o).hs.z)=false:=Lc _ d;rw[<-yu _ a b _ hx,<-yu _ a b _ d];by_cases h:a=o
 .rw[if_pos h];exact vv λc _=>by rw[Ci,if_pos h]
 rw[if_neg h];exact uh λc _=>by rw[Ci,if_neg h]
theorem Ft(s:St)(o i j:Nat):(((ed s o).os.z i).ls.z j).o=((s.os.z i).ls.z j).o/\(((ed s o).os.z i).ls.z j).l=((s.os.z i).ls.z j).l/\(((ed s o).os.z i).ls.z j).b=((s.os.z i).ls.z j).b:=by
 rw[sd];by_cases h:i=o
 .rw[if_pos h];show((if j<_ then xi ((s.os.z i).ls.z j) else(s.os.z i).ls.z j).o=_)/\((if j<_ then xi ((s.os.z i).ls.z j) else(s.os.z i).ls.z j).l=_)/\((if j<_ then xi ((s.os.z i).ls.z j) else(s.os.z i).ls.z j).b=_)
  split<;>exact⟨rfl,rfl,rfl⟩
 rw[if_neg h];exact⟨rfl,rfl,rfl⟩
theorem I7(a:j<(s.os.z o).ls.n):(((ed s o).os.z o).ls.z j).n=((s.os.z o).ls.z j).l-((s.os.z o).ls.z j).b:=by
 rw[sd,if_pos rfl];show(if j<_ then xi ((s.os.z o).ls.z j) else(s.os.z o).ls.z j).n=_;rw[if_pos a]
 rfl
theorem zu(s:St)(o i:Nat):((ed s o).os.z i).ls.n=(s.os.z i).ls.n:=by
 rw[sd]
 split<;>rfl
theorem Ig(r:ar p s)(w:o<s.os.n):cx p (ed s o):=by
 have f:=r.fm;have hx:ax (ed s o).hs.n (db (ed s o).hs.z)=false:=Lc _ f.hold;refine⟨f.sh,f.sh0,f.os4,f.ms8,λi hi=>by rw[zu];exact f.lns i hi,λi hi => ?_,λi hi j u => ?_,hx,λi hi => ?_,f.move,f.sin,f.son,f.sfn,f.sib,f.sob,f.sfb⟩
 .rw[sd]
  split
  .exact⟨(by decide:(0:Int)<=2),(by decide:(2:Int)<=2)⟩
  exact f.kind i hi
 .have a:j<(s.os.z i).ls.n:=by rw[<-zu s o];exact u
  obtain⟨b1,b2,b3,b4⟩:=er (f.line i hi j a);have g:=Ft s o i j;by_cases h:i=o
  .subst h;have e:=I7 (s:=s) a;unfold ki;rw[bw (by omega),bw (by omega),bw (by omega),bw (by omega)]
   rfl
  rw[sd,if_neg h];exact f.line i hi j a
 have e:=(o6 hx hi (wu _)).1;rw[Ci] at e;have fn:=(cz (cd hx i hi)).2.2.2
 split at e
 .omega
 obtain⟨k,t,-⟩:=tn f.hold (o:=((ed s o).hs.z i).o) (l:=((ed s o).hs.z i).l) (b:=((ed s o).hs.z i).b) (by omega);obtain⟨m,v,q⟩:=fk t;obtain⟨a1,c,d⟩:=i8 (f.home _ k);rw[m] at a1 c;rw[v] at c;rw[q] at d;refine qf a1 ⟨c.1,?_⟩ d;rw[zu];exact c.2
theorem Mj{z z':Nat->Int}:∀{k:Nat},(∀i,i<k->z i<=z' i)->cv z k<=cv z' k
 | 0,_=>Int.le_refl _
 | k+1,h=>by
  have:=Mj (k:=k) λi hi=>h i (by omega);have:=h k (by omega);simp only[cv];omega
theorem T7(r:ar p s)(c:o<s.os.n)(b g:Int):ca (ed s o) b g (ed s o).hs.n<=ca s b g s.hs.n:=by
 have f:=r.fm;have fx:=Ig r c;rw[ua b g _ fx.home fx.hold,ua b g _ f.home f.hold];unfold B9;refine Mj λi hi => ?_;rw[zu];refine Mj λj a => ?_;unfold lf;rw[(Ft s o i j).1,Ci];have d:=(Ed (λj a=>(cz (cd f.hold j a)).2.2.2) (i:Int) (j:Int) b).1
 split
 .split<;>omega
 omega
theorem R4(r:ar p s)(f:o<s.os.n):ar p (ed s o):=by
 refine⟨Ig r f,λg q => ?_,λi hi => ?_⟩
 .obtain⟨a1,t⟩:=ld (r.goods g q);refine ti a1 λb v => ?_;have A:=T7 r f b g;have y:=t b v;unfold aw at y ⊢;have e:bj (ed s o) b g (ed s o).ms.n=bj s b g s.ms.n:=pr (x:=ed s o) (s:=s) (λj _=>rfl);rw[e];have m:((ed s o).on.r b).z g=(s.on.r b).z g:=rfl;rw[m];omega
 have c:i<s.os.n:=hi;have w:=r.orders i c;unfold ch at w ⊢;rw[Xxq] at w ⊢;by_cases h:i=o
 .subst h;have l:((ed s i).os.z i).k=2:=by rw[sd,if_pos rfl]
  rw[l];refine⟨rfl,cu λj a => ?_⟩;have d:j<(s.os.z i).ls.n:=by rw[<-zu s i];exact a
  have g:=Ft s i i j;have e:=I7 (s:=s) d;have k:=I6 r.fm.hold i i j;rw[if_pos rfl] at k;unfold cp;rw[if_neg (by decide),if_pos rfl,k];simp only[Xxq,Bool.not_eq_false',beq_iff_eq];exact⟨by omega,trivial⟩
 have e:(ed s o).os.z i=s.os.z i:=by rw[sd,if_neg h]
 rw[e];refine⟨w.1,cu λj a => ?_⟩;have u:=dk w.2 j a;rw[I6 r.fm.hold,if_neg (by omega)];exact u
theorem Aw{order:Int}(h:gx p s order=0):ag p s=0/\(0<=order/\order.toNat<s.os.n)/\¬(s.os.z order.toNat).k=2:=by
 by_cases a:ag p s=0
 .cases b:inB order 0 ((s.os.n:Int)-1)
  .rw[D5 a b] at h;exact absurd h (by decide)
  by_cases c:(s.os.z order.toNat).k=2
  .rw[D4 a b c] at h;exact absurd h (by decide)
  have:=au b;exact⟨a,by omega,c⟩
 rw[v7 a] at h;exact absurd h a
structure Ax where
 k:Int
 a:Int
 b:Int
 c:Int
 n:Int
 ls:Hs
def Ax.cells(x:Ax):Array Value:=#[.int .i64 x.k,.int .i64 x.a,.int .i64 x.b,.int .i64 x.c,.int .i64 x.n,.slice x.ls.a x.ls.n x.ls.c]
def Ax.val(x:Ax):Value := .agg x.cells
def doE(p:Pl)(s:St)(x:Ax):Int :=
 if x.k=1 then ii p s x.a x.b x.n else if x.k=2 then g9 p s x.ls else if x.k=3 then ag p s else if x.k=4 then gx p s x.a else if x.k=5 then jd p s x.a x.b x.c x.n else if x.k=6 then ag p s else if x.k=7 then gu p s x.a x.n else if x.k=8 then fo p s x.a x.b x.n else 8
def doT(p:Pl)(s:St)(x:Ax):St :=
 if x.k=1 then mt s x.a.toNat x.b.toNat x.n else if x.k=2 then ma s x.ls else if x.k=3 then Jv p s else if x.k=4 then ed s x.a.toNat else if x.k=5 then sj p s x.a.toNat x.b.toNat x.c.toNat x.n else if x.k=6 then Cl p s else if x.k=7 then jz s x.a.toNat x.n else ni p s x.a.toNat x.b.toNat x.n
section
variable {p:Pl} {s:St} {x:Ax}
theorem aa1(P:Int->St->Prop)(y:x.k=1->P (ii p s x.a x.b x.n) (mt s x.a.toNat x.b.toNat x.n))(w:x.k=2->P (g9 p s x.ls) (ma s x.ls))(q:x.k=3->P (ag p s) (Jv p s))(u:x.k=4->P (gx p s x.a) (ed s x.a.toNat))(t:x.k=5->P (jd p s x.a x.b x.c x.n) (sj p s x.a.toNat x.b.toNat x.c.toNat x.n))(o:x.k=6->P (ag p s) (Cl p s))(v:x.k=7->P (gu p s x.a x.n) (jz s x.a.toNat x.n))(r:x.k=8->P (fo p s x.a x.b x.n) (ni p s x.a.toNat x.b.toNat x.n))(m:¬x.k=1->¬x.k=2->¬x.k=3->¬x.k=4->¬x.k=5->¬x.k=6->¬x.k=7->¬x.k=8->P 8 (ni p s x.a.toNat x.b.toNat x.n)):P (doE p s x) (doT p s x):=by
 unfold doE doT;by_cases j:x.k=1
 .rw[if_pos j,if_pos j];exact y j
 rw[if_neg j,if_neg j];by_cases g:x.k=2
 .rw[if_pos g,if_pos g];exact w g
 rw[if_neg g,if_neg g];by_cases f:x.k=3
 .rw[if_pos f,if_pos f];exact q f
 rw[if_neg f,if_neg f];by_cases e:x.k=4
 .rw[if_pos e,if_pos e];exact u e
 rw[if_neg e,if_neg e];by_cases i:x.k=5
 .rw[if_pos i,if_pos i];exact t i
 rw[if_neg i,if_neg i];by_cases d:x.k=6
 .rw[if_pos d,if_pos d];exact o d
 rw[if_neg d,if_neg d];by_cases h:x.k=7
 .rw[if_pos h,if_pos h];exact v h
 rw[if_neg h,if_neg h];by_cases l:x.k=8
 .rw[if_pos l];exact r l
 rw[if_neg l];exact m j g f e i d h l
theorem N5{order line bin n:Int}(h:jd p s order line bin n=0):lu p s order.toNat line.toNat bin.toNat n:=by
 obtain⟨-,o,l,b,rfl,rfl,rfl,hi⟩:=N4 h;exact hi
theorem Lj{k n:Int}(h:gu p s k n=0):∃(f b g:Nat) (N:Int),p8 p s k.toNat f b g N n:=by
 obtain⟨-,i,f,b,g,N,rfl,hi⟩:=U7 h;exact⟨f,b,g,N,hi⟩
theorem Kz{bin good seen:Int}(h:fo p s bin good seen=0):dg p s bin.toNat good.toNat seen:=by
 obtain⟨-,b,g,rfl,rfl,hi⟩:=U1 h;exact hi
theorem abr{bin good n:Int}(h:ii p s bin good n=0):ar p (mt s bin.toNat good.toNat n):=by
 obtain⟨a,e,f,c,-,d,b⟩:=Ll h;exact Xh (dp a) (by omega) (by omega) c.1 d b
theorem Si:doE p s x=0->ar p s/\ar p (doT p s x):=by
 refine aa1 (λE T=>E=0->ar p s/\ar p T) ?_ ?_ ?_ ?_ ?_ ?_ ?_ ?_ ?_
 .exact λ_ h=>⟨dp (Xe h),abr h⟩
 .exact λ_ h=>⟨dp (Ld h).1,Ug h⟩
 .exact λ_ h=>⟨dp h,Xk (dp h)⟩
 .exact λ_ h=>⟨dp (Aw h).1,R4 (dp (Aw h).1) (Aw h).2.1.2⟩
 .exact λ_ h=>⟨dp (N4 h).1,Xb (N5 h)⟩
 .exact λ_ h=>⟨dp h,(Y5 (dp h)).r⟩
 .exact λ_ h=>⟨dp (U7 h).1,by obtain⟨f,b,g,N,hi⟩:=Lj h;exact Um hi⟩
 .exact λ_ h=>⟨dp (U1 h).1,Fx (Kz h)⟩
 exact λ_ _ _ _ _ _ _ _ h=>absurd h (by decide)
theorem aa0(h:doE p s x=0):(doT p s x).os.n<=1000/\(doT p s x).ms.n<=1000/\∀i,i<(doT p s x).os.n->((doT p s x).os.z i).ls.n<=1000:=(Si h).2.bound
end
theorem acr{b:World}(h:Er y)(a:y.At b)(c:World):y.At c:=by
 obtain⟨k,l,e,g,f,d,j⟩:=h;exact⟨⟨a.on.le,a.on.cap,λi hi=>absurd hi (by omega)⟩,⟨a.os.le,a.os.cap,λi hi=>absurd hi (by omega)⟩,⟨a.hs.le,a.hs.cap,λi hi=>absurd hi (by omega),a.hs.nilc⟩,⟨a.ms.le,a.ms.cap,λi hi=>absurd hi (by omega),a.ms.nilc⟩,⟨a.si.le,a.si.cap,λi hi=>absurd hi (by omega)⟩,⟨a.so.le,a.so.cap,λi hi=>absurd hi (by omega)⟩,⟨a.sf.le,a.sf.cap,λi hi=>absurd hi (by omega)⟩⟩
theorem Ye{T:St}{c:World}(h:ij r T y)(b:y.At c)(d:r=0->ai A a y):y.At a:=by
 by_cases e:r=0
 .exact(d e).at
 exact acr (h.2 e) b a
theorem Jd{f:Hd->Bool}:∀{R:List Hd} {m:Int},xe R->fi f R<=m->iz f (m+1) R=iz f m R
 | [],_,_,_=>rfl
 | h :: R,m,p,hs=>by
  have b:=p.head;have d:=Cg (P:=f) p.tail;by_cases c:f h=true
  .have e:∀k,iz f k (h :: R)=jc h (min k h.n) :: iz f (k-min k h.n) R:=λk=>if_pos c;have a:fi f (h :: R)=fi f R+h.n:=by show _+(if f h then _ else _)=_;rw[if_pos c]
   rw[a] at hs;rw[e,e,show min (m+1) h.n=h.n by omega,show min m h.n=h.n by omega,show m+1-h.n=m-h.n+1 by omega,Jd p.tail (by omega)]
  have e:∀k,iz f k (h :: R)=h :: iz f k R:=λk=>if_neg c;have a:fi f (h :: R)=fi f R:=by show _+(if f h then _ else _)=_;rw[if_neg c,Int.add_zero]
  rw[a] at hs;rw[e,e,Jd p.tail hs]
theorem z8{f:Hd->Bool}{z:Nat->Hd}:∀{n:Nat},kj f z n=none->fi f (cy z n)=0
 | 0,_=>rfl
 | n+1,h=>by
  have k:=Qj h;have c:f (z n)=false:=k n (by omega);have b:kj f z n=none:=by
   have a:(if f (z n) then some n else kj f z n)=none:=h;rw[if_neg (by rw[c];decide)] at a;exact a
  show fi f (cy z n)+(if f (z n) then(z n).n else 0)=0;rw[z8 b,if_neg (by rw[c];decide)]
  rfl
theorem z9{f:Hd->Bool}{z:Nat->Hd}:∀{n k:Nat},(∀x,x∈cy z n->1<=x.n)->kj f z n=some k->1<=fi f (cy z n)
 | 0,_,_,h=>by cases h
 | n+1,k,p,h=>by
  have a:∀x,x∈cy z n->1<=x.n:=λx hx=>p x (List.mem_cons_of_mem _ hx);have d:=Cg (P:=f) (R:=cy z n) λx hx=>by have:=a x hx;omega
  have b:(if f (z n) then some n else kj f z n)=some k:=h;show 1<=fi f (cy z n)+(if f (z n) then(z n).n else 0);by_cases c:f (z n)=true
  .have:=p (z n) List.mem_cons_self;rw[if_pos c];omega
  rw[if_neg c] at b ⊢;have:=z9 a b;omega
theorem Nv{f f':Hd->Bool}{z:Nat->Hd}:∀{n:Nat},(∀j,j<n->f' (z j)=f (z j))->kj f' z n=kj f z n
 | 0,_=>rfl
 | n+1,h=>by
  show(if f' (z n) then some n else kj f' z n)=if f (z n) then some n else kj f z n;rw[h n (by omega),Nv (n:=n) λj a=>h j (by omega)]
def vy(h m:Hs)(k:Nat):Prop:=if (h.z k).n=1 then m.n=h.n-1/\(∀i,i<m.n->m.z i=fw h.z k i) else m.n=h.n/\∀i,i<m.n->m.z i=ig h.z k 1 i
theorem vy.rev{f:Hd->Bool}{h m:Hs}{k:Nat}(a:kj f h.z h.n=some k)(c:vy h m k):cy m.z m.n=Jp f (cy h.z h.n):=by
 have l:=Dy a;unfold vy at c;by_cases e:(h.z k).n=1
 .rw[if_pos e] at c;obtain⟨q,d⟩:∃q,h.n=q+1:=⟨h.n-1,by omega⟩;rw[d] at a ⊢;rw[<-S2 a e,show m.n=q by omega];exact pk λj b=>c.2 j (by omega)
 rw[if_neg e] at c;rw[<-S3 a e,c.1];exact pk λj b=>c.2 j (by omega)
section
variable {p:Pl} {s x:St} {b g:Nat} {seen J:Int}
def nz(s:St)(b g:Nat)(seen J:Int)(x:St):Prop:=af x (ju (je s b g J) b g seen)
theorem nz.start(r:ar p s)(u:b<p.nb)(o:g<p.ns)(h:af x s):nz s b g seen 0 (ju x b g seen):=by
 have c:=h.trans (Sf r b g).symm;have t:(x.on.r b).z g=(s.on.r b).z g:=h.num r.fm u o;refine⟨⟨c.on.1,λi hi => ?_⟩,c.os,c.hs,c.ms,c.si,c.so,⟨c.sf.1,λj d => ?_⟩⟩
 .have f:i<x.on.n:=hi;have k:=c.on.2 i f;have e:=s9 x b g seen i;have l:=s9 (je s b g 0) b g seen i;have m:((ju x b g seen).on.r i).n=(x.on.r i).n:=e;refine⟨e.trans (k.1.trans l.symm),λj d => ?_⟩;rw[tv,tv,k.2 j (by rw[<-m];exact d)]
 have a:j<x.sf.n:=d;show(if j=g then x.sf.z g+(seen-(x.on.r b).z g) else x.sf.z j)=if j=g then s.sf.z g+(seen-(s.on.r b).z g) else s.sf.z j;rw[h.sf.2 j a,t];by_cases q:j=g
 .rw[if_pos q,if_pos q,<-q,h.sf.2 j a]
 rw[if_neg q,if_neg q]
theorem Ys(r:ar p s)(a:0<=J)(c:J<=oq s b g):oq (je s b g J) b g=oq s b g-J:=by
 have e:=Sd (b:=b) (g:=g) r a b g;have d:=Sc (b:=b) (g:=g) r a b g;have f:=nj (b:=b) (g:=g) r a;have i:=(nw (s:=s) (b:=b) (g:=g) (n:=s.hs.n) r.fm.holdN).1;have h:=(jx (s:=s) (b:=b) (g:=g) (n:=s.ms.n) r.fm.moveN).1;rw[if_pos ⟨rfl,rfl⟩] at e d;unfold oq at c ⊢;omega
theorem nz.revM(h:nz s b g seen J x):cy x.ms.z x.ms.n=flt (iz (ct b g) J (qh s)):=by
 have e:cy x.ms.z x.ms.n=cy (cq (ct b g) s.ms J).z (cq (ct b g) s.ms J).n:=by
  have n:x.ms.n=(cq (ct b g) s.ms J).n:=h.ms.1;rw[n];exact pk λj a=>h.ms.2 j (by rw[n];exact a)
 rw[e,lw]
 rfl
theorem nz.revH(h:nz s b g seen J x):cy x.hs.z x.hs.n=flt (iz (ce s b g) (iu s b g J) (mq s)):=by
 have e:cy x.hs.z x.hs.n=cy (cq (ce s b g) s.hs (iu s b g J)).z (cq (ce s b g) s.hs (iu s b g J)).n:=by
  have n:x.hs.n=(cq (ce s b g) s.hs (iu s b g J)).n:=h.hs.1;rw[n];exact pk λj a=>h.hs.2 j (by rw[n];exact a)
 rw[e,lw]
 rfl
theorem O5{R:List Hd}(p:xe R):∀y,y∈flt R->1<=y.n:=λy a=>by
 unfold flt at a;rw[List.mem_filter] at a;have:=p y a.1;have b:=a.2;unfold ts at b;simp at b;omega
theorem nz.move(r:ar p s)(a:0<=J)(h:nz s b g seen J x){k:Nat}(d:kj (ct b g) x.ms.z x.ms.n=some k){m:Hs}(c:vy x.ms m k):nz s b g seen (J+1) (withMoves x m):=by
 have e:=c.rev d;have s1:=z9 (by rw[h.revM];exact O5 (Bo _ r.movesP a)) d;rw[h.revM,vu,(ur (ss b g) r.movesP a).1] at s1;have j:J+1<=fi (ct b g) (qh s):=by omega
 rw[h.revM,(Kk (ss b g) r.moves0 a j).1] at e;have i:cy m.z m.n=cy (cq (ct b g) s.ms (J+1)).z (cq (ct b g) s.ms (J+1)).n:=by rw[e,lw];rfl
 have o:=Ag i;have t:bj s b g s.ms.n=fi (ct b g) (qh s):=vl s b g s.ms.n;have L:iu s b g (J+1)=iu s b g J:=by
  have a1:=(nj (b:=b) (g:=g) r a).1;have q:=(nj (b:=b) (g:=g) (M:=J+1) r (by omega)).1;omega
 have eq:ew s b g (J+1)=ew s b g J:=by unfold ew;rw[L]
 have f:(ju (je s b g (J+1)) b g seen).os=(ju (je s b g J) b g seen).os:=by
  show Ge s.os (ew s b g (J+1))=Ge s.os (ew s b g J);rw[eq]
 have l:(ju (je s b g (J+1)) b g seen).hs=(ju (je s b g J) b g seen).hs:=by
  show cq (ce s b g) s.hs (iu s b g (J+1))=cq (ce s b g) s.hs (iu s b g J);rw[L]
 exact⟨h.on,by rw[f];exact h.os,by rw[l];exact h.hs,o,h.si,h.so,h.sf⟩
theorem nz.noMove(r:ar p s)(a:0<=J)(h:nz s b g seen J x)(c:kj (ct b g) x.ms.z x.ms.n=none):fi (ct b g) (qh s)<=J/\iu s b g (J+1)=iu s b g J+1:=by
 have e:=z8 c;rw[h.revM,vu,(ur (ss b g) r.movesP a).1] at e;have i:bj s b g s.ms.n=fi (ct b g) (qh s):=vl s b g s.ms.n;have a1:=(nj (b:=b) (g:=g) r a).1;have d:=(nj (b:=b) (g:=g) (M:=J+1) r (by omega)).1;have f:=(jx (s:=s) (b:=b) (g:=g) (n:=s.ms.n) r.fm.moveN).1;omega
theorem nz.good(r:ar p s)(e:0<=J)(h:nz s b g seen J x)(a:j<x.hs.n):ce x b g (x.hs.z j)=ce s b g (x.hs.z j):=by
 have f:=Ha (b:=b) (g:=g) r e;have q:x.hs.n=(je s b g J).hs.n:=h.hs.1;have k:x.hs.z j=(je s b g J).hs.z j:=h.hs.2 j a;obtain⟨d,c,-⟩:=i8 (f.home j (by rw[<-q];exact a));rw[<-k] at d c;have m:=h.line (i:=(x.hs.z j).o.toNat) (j:=(x.hs.z j).l.toNat) d.2 c.2;unfold ce
 congr 2
 unfold jw;rw[m]
 rfl
theorem nz.hold(r:ar p s)(B:0<=J)(h:nz s b g seen J x)(S:kj (ct b g) x.ms.z x.ms.n=none){k:Nat}(K:kj (ce x b g) x.hs.z x.hs.n=some k){m:Hs}(c:vy x.hs m k)(ho:(x.hs.z k).o=o)(hl:(x.hs.z k).l=l):nz s b g seen (J+1) (setLine (withHolds x m) o l 3 (((x.os.z o).ls.z l).n+1))/\∀a d:Int,ew s b g (J+1) a d=ew s b g J a d+if a=o/\d=l then 1 else 0:=by
 obtain⟨hS,L⟩:=h.noMove r B S;have y:=(nj (b:=b) (g:=g) r B).2;have t:kj (ce s b g) x.hs.z x.hs.n=some k:=by rw[<-K];exact(Nv λj q=>h.good r B q).symm
 have e:=c.rev t;have s1:=z9 (by rw[h.revH];exact O5 (Bo _ r.holdsP y)) t;rw[h.revH,vu,(ur (Cm s b g) r.holdsP y).1] at s1;have U:iu s b g J+1<=fi (ce s b g) (mq s):=by omega
 obtain⟨M,D,Y,X⟩:=Kk (Cm s b g) r.holds0 y U;rw[h.revH,M] at e;have W:cy m.z m.n=cy (cq (ce s b g) s.hs (iu s b g (J+1))).z (cq (ce s b g) s.hs (iu s b g (J+1))).n:=by rw[e,lw,L];rfl
 have V:=Ag W;have F:(cy x.hs.z x.hs.n).find? (ce s b g)=some (x.hs.z k):=by rw[Qi,t];rfl
 rw[h.revH,Y] at F;have E:D=x.hs.z k:=by simpa using F
 have Q:∀a d:Int,ew s b g (J+1) a d=ew s b g J a d+if a=o/\d=l then 1 else 0:=λa d=>by
  unfold ew;rw[L,X,E,ho,hl];by_cases u:a=o/\d=l
  .rw[if_pos u,if_pos ⟨u.1.symm,u.2.symm⟩]
  rw[if_neg u,if_neg (λv=>u ⟨v.1.symm,v.2.symm⟩)]
 refine⟨⟨h.on,⟨h.os.1,λi hi => ?_⟩,V,?_,h.si,h.so,h.sf⟩,Q⟩;rotate_left
 .have P:cy (cq (ct b g) s.ms (J+1)).z (cq (ct b g) s.ms (J+1)).n=cy (cq (ct b g) s.ms J).z (cq (ct b g) s.ms J).n:=by
   have T:cy s.ms.z s.ms.n=qh s:=rfl;rw[lw,lw,T,Jd r.movesP hS]
  have A:=Ag P;have G:x.ms.n=(cq (ct b g) s.ms J).n:=h.ms.1;refine⟨?_,λj q => ?_⟩
  .show x.ms.n=(cq (ct b g) s.ms (J+1)).n;rw[G,A.1]
  have f:j<x.ms.n:=q;show x.ms.z j=(cq (ct b g) s.ms (J+1)).z j;rw[A.2 j (by rw[A.1,<-G];exact f)];exact h.ms.2 j f
 have H:i<x.os.n:=hi;have w:=h.os.2 i H;rw[sy,(dr i).1];refine⟨w.1,w.2.1,λj q => ?_⟩;rw[pn];have f:j<(x.os.z i).ls.n:=q;have v:(x.os.z i).ls.z j=uv ((s.os.z i).ls.z j) (ew s b g J i j):=w.2.2 j f;show(if i=o/\j=l then H4 ((x.os.z i).ls.z j) 3 _ else(x.os.z i).ls.z j)=uv ((s.os.z i).ls.z j) (ew s b g (J+1) i j);rw[Q];by_cases u:i=o/\j=l
 .rw[if_pos u,if_pos ⟨by omega,by omega⟩,<-u.1,<-u.2,v];show(⟨_,_,_,_+1⟩:Hd)=⟨_,_,_,_+(_+1)⟩;unfold uv;rw[Int.add_assoc]
 rw[if_neg u,if_neg (λe=>u ⟨by omega,by omega⟩),v,Int.add_zero]
end
structure ru(x y:Ax):Prop where
 k:x.k=y.k
 a:x.a=y.a
 b:x.b=y.b
 c:x.c=y.c
 n:x.n=y.n
 ln:x.ls.n=y.ls.n
 lz:∀j,j<y.ls.n->x.ls.z j=y.ls.z j
theorem ru.self(x:Ax):ru x x:=⟨rfl,rfl,rfl,rfl,rfl,rfl,λ_ _=>rfl⟩
section
variable {p:Pl} {s y:St}
theorem Xd(r:ar p s)(e:af y s)(bin good n:Int):ii p y bin good n=ii p s bin good n:=by
 unfold ii;rw[if_pos (j8 (e.right r)),if_pos (j8 r)];cases h:(inB bin 0 ((p.nb:Int)-1)&&inB good 0 ((p.ns:Int)-1)&&inB n 1 200)
 .rfl
 simp only[Xxx] at h;have c:=au h.1.1;have d:=au h.1.2;have b:bin.toNat<p.nb:=by omega
 have a:good.toNat<p.ns:=by omega
 rw[e.free r.fm b,e.lying r.fm b a,e.si.2 good.toNat (by rw[e.si.1,r.fm.sin];exact a)]
theorem Xf(r:ar p s)(e:af y s)(c:b<p.nb)(a:g<p.ns)(n:Int):af (mt y b g n) (mt s b g n):=by
 unfold mt;rw[e.num r.fm c a,e.si.2 g (by rw[e.si.1,r.fm.sin];exact a)];exact H5 (zd e _ _ _) _ _
theorem Ue(r:ar p s)(e:af y s){l a:Hs}(d:a.n=l.n)(c:∀j,j<l.n->a.z j=l.z j):g9 p y a=g9 p s l:=by
 unfold g9;rw[if_pos (j8 (e.right r)),if_pos (j8 r),e.os.1,d,pe (f:=λj=>uq p (a.z j)) (g:=λj=>uq p (l.z j)) λj b=>by rw[c j b],pe (f:=λj=>py (a.z j)) (g:=λj=>py (l.z j)) λj b=>by rw[c j b]]
theorem Uf(e:af y s){l a:Hs}(g:a.n=l.n)(k:∀j,j<l.n->a.z j=l.z j):af (ma y a) (ma s l):=by
 refine⟨e.on,⟨by show y.os.n+1=s.os.n+1;rw[e.os.1],λi hi => ?_⟩,e.hs,e.ms,e.si,e.so,e.sf⟩;have o:i<y.os.n+1:=hi;by_cases c:i=y.os.n
 .have b:i=s.os.n:=c.trans e.os.1;have f:(ma y a).os.z i=⟨0,a⟩:=if_pos c;have d:(ma s l).os.z i=⟨0,l⟩:=if_pos b;rw[f,d];exact⟨rfl,g,λj m=>k j (by rw[<-g];exact m)⟩
 have b:¬i=s.os.n:=λh=>c (h.trans e.os.1.symm);have f:(ma y a).os.z i=y.os.z i:=if_neg c;have d:(ma s l).os.z i=s.os.z i:=if_neg b;rw[f,d];exact e.os.2 i (by omega)
theorem R3(r:ar p s)(e:af y s)(o:Int):gx p y o=gx p s o:=by
 unfold gx;rw[if_pos (j8 (e.right r)),if_pos (j8 r),e.os.1];cases h:inB o 0 ((s.os.n:Int)-1)
 .rfl
 have a:=au h;rw[(e.os.2 o.toNat (by rw[e.os.1];omega)).1]
theorem Ii(e:af y s)(b:o<s.os.n)(a:l<(s.os.z o).ls.n):bu y o l=bu s o l:=by
 unfold bu;rw[e.line b a]
theorem Ww(r:ar p s)(e:af y s)(order line bin n:Int):jd p y order line bin n=jd p s order line bin n:=by
 have a:dw y order line bin=dw s order line bin:=e.keptV _ _ _;unfold jd;rw[if_pos (j8 (e.right r)),if_pos (j8 r),a];by_cases h:dw s order line bin=0
 .rw[if_pos h,if_pos h]
 rw[if_neg h,if_neg h];obtain⟨o,l,b,rfl,rfl,rfl,hi⟩:=Nr r h;have g:=hi.good;have c:bu y (o:Int).toNat (l:Int).toNat=bu s (o:Int).toNat (l:Int).toNat:=Ii e hi.on hi.ln;have d:y.so.z (bu s (o:Int).toNat (l:Int).toNat)=s.so.z (bu s (o:Int).toNat (l:Int).toNat):=e.so.2 _ (by rw[e.so.1,r.fm.son];exact g.2);rw[c,d]
theorem P5{α:Type}{f g:α->Bool}:∀{l:List α},(∀x,x∈l->f x=g x)->l.find? f=l.find? g
 | [],_=>rfl
 | a :: l,h=>by
  rw[List.find?_cons,List.find?_cons,h a List.mem_cons_self,P5 λx hx=>h x (List.mem_cons_of_mem _ hx)]
theorem Ud{h k:Hs}(c:h.n=k.n)(a:∀j,j<h.n->h.z j=k.z j)(o l b:Int)(g:0<k.n):(mi h o l b).n=(mi k o l b).n/\∀j,j<(mi h o l b).n->(mi h o l b).z j=(mi k o l b).z j:=by
 have e:jp h.n h.z o l b=jp k.n k.z o l b:=by
  unfold jp;rw[c,P5 λi hi=>by rw[a i (by rw[c];exact List.mem_range.1 hi)]]
 refine⟨by show h.n-1=k.n-1;rw[c],λj d => ?_⟩;have f:j<h.n-1:=d;show fw h.z (jp h.n h.z o l b) j=fw k.z (jp k.n k.z o l b) j;rw[e];unfold fw;rw[a j (by omega),a (j+1) (by omega)]
theorem Wx(e:af y s){n:Int}(a:oy p s o l b):af (cn y o l b n) (cn s o l b n):=by
 have c:dw y o l b=dw s o l b:=e.keptV _ _ _;have g:=Ii e a.on a.ln;have f:0<s.hs.n:=by
  apply Classical.byContradiction
  intro h;have i:s.hs.n=0:=by omega
  exact a.kp (by unfold dw;rw[i];rfl)
 have d:=Ud e.hs.1 e.hs.2 o l b f;have k:=Ht e (n:=n) a d.1 d.2;rw[<-g,<-c] at k;exact k
theorem Wy(e:af y s){n:Int}(h:lu p s o l b n):af (sj p y o l b n) (sj p s o l b n):=by
 have S:=Wx (n:=n) e h.hd;have a:dw y o l b=dw s o l b:=e.keptV _ _ _;have g:=Fz S (o:=o) h.hd.on;unfold sj;rw[g,a];by_cases c:ko (cn s o l b n) o=true
 .rw[if_pos c,if_pos c];exact Hj S _ _
 rw[if_neg c,if_neg c];have T:=h.takeIn;exact l6.same T S (zg T) (zg (T.same S))
theorem Sp(r:ar p s)(e:af y s){f:Nat}(h:b<p.nb)(a:g<p.ns)(d:f<p.nb):af (o5 p b g f y) (o5 p b g f s):=by
 unfold o5;rw[Hc e r.fm h a d,e.ms.1];by_cases c:s.ms.n<8/\1<=px p s b g f
 .rw[if_pos c,if_pos c];exact D1 e _ (k:=(ja y ⟨g,f,b,px p s b g f⟩).ms) rfl (λj i=>if_neg (by omega)) (if_pos rfl)
 rw[if_neg c,if_neg c];exact e
theorem Wc(d:b<p.nb)(c:(p.zb b).front=true)(a:g<p.ns)(L:List (Ac p false)):∀{s y:St},gp p x s->af y s->af (jt p b g L y) (jt p b g L s):=by
 induction L with
 | nil=>exact λ_ e=>e
 | cons f L ih=>exact λE e=>ih (E.step d c a f.2.1 f.2.2) (Sp E.r e d a f.2.1)
theorem Nn{s0:St}{b:Nat}(c:b<p.nb)(a:(p.zb b).front=true){s y:St}(E:gp p s0 s)(e:af y s):∀{g:Nat},g<=p.ns->af (jg p b g y) (jg p b g s)
 | 0,_=>e
 | g+1,hg=>by
  have d:=Nn c a E e (g:=g) (by omega);have f:=E.G c a (g:=g) (by omega);simp only[jg];rw[d.lying f.r.fm c (by omega)]
  split
  .exact d
  exact Wc c a (by omega) _ f d
theorem Wa(L:List (Ac p true)):∀{s y:St},gp p x s->af y s->af (my p L y) (my p L s):=by
 induction L with
 | nil=>exact λ_ e=>e
 | cons b L ih=>exact λE e=>ih (E.G b.2.1 b.2.2 nlr) (Nn b.2.1 b.2.2 E e nlr)
theorem Wd(r:ar p s)(e:af y s):af (Cl p y) (Cl p s):=Wa _ (gp.refl r) e
theorem Uj(r:ar p s)(e:af y s)(k n:Int):gu p y k n=gu p s k n:=by
 unfold gu;rw[if_pos (j8 (e.right r)),if_pos (j8 r),e.ms.1];cases h:inB k 0 ((s.ms.n:Int)-1)
 .rfl
 have i:=au h;have a:k.toNat<s.ms.n:=by omega
 obtain⟨d,c,f,-⟩:=rv (r.fm.move k.toNat a);rw[e.ms.2 k.toNat (by rw[e.ms.1];exact a),e.num r.fm (b:=(s.ms.z k.toNat).b.toNat) (g:=(s.ms.z k.toNat).o.toNat) (by omega) (by omega)]
theorem Uk(e:af y s){k f:Nat}{N n:Int}(h:p8 p s k f b g N n):af (jz y k n) (jz s k n):=by
 have d:=h.kn;have i:y.ms.z k=⟨g,f,b,N⟩:=(e.ms.2 k (by rw[e.ms.1];exact d)).trans h.m;have c:jz y k n=ve y (C3 y.ms k) f b g n:=by
  unfold jz;rw[i];simp only[Int.toNat_natCast]
 rw[c];refine Co h e (by show y.ms.n-1=_;rw[e.ms.1]) λj a => ?_;have l:j<y.ms.n-1:=a;show(if j<k then y.ms.z j else y.ms.z (j+1))=if j<k then s.ms.z j else s.ms.z (j+1);rw[e.ms.2 j (by omega),e.ms.2 (j+1) (by omega)]
theorem T9(r:ar p s)(e:af y s)(bin good seen:Int):fo p y bin good seen=fo p s bin good seen:=by
 unfold fo;rw[if_pos (j8 (e.right r)),if_pos (j8 r)];cases h:(inB bin 0 ((p.nb:Int)-1)&&inB good 0 ((p.ns:Int)-1)&&inB seen 0 200)
 .rfl
 simp only[Xxx] at h;have c:=au h.1.1;have d:=au h.1.2;have b:bin.toNat<p.nb:=by omega
 have a:good.toNat<p.ns:=by omega
 rw[e.num r.fm b a,e.sf.2 good.toNat (by rw[e.sf.1,r.fm.sfn];exact a)]
theorem Ua(e:af y s){seen:Int}(h:dg p s b g seen):af (ni p y b g seen) (ni p s b g seen):=by
 have r:=h.r;have k:(y.on.r b).z g=(s.on.r b).z g:=e.num r.fm h.bn h.gn;have d:y.sf.z g=s.sf.z g:=e.sf.2 g (by rw[e.sf.1,r.fm.sfn];exact h.gn);have l:dg p y b g seen:=⟨e.right r,h.bn,h.gn,h.s0,h.s1,by rw[k,d];exact h.fx⟩;have f:ey y b g seen=ey s b g seen:=by unfold ey oq;rw[e.held r.fm,e.from]
 have c:=Pz r.fm e b g (ey s b g seen);have S:af (pi y b g seen) (pi s b g seen):=by
  unfold pi;rw[f];exact We c.1 k d
 refine iq.same h.qin (λ_ _=>rfl) (Nat.le_refl s.os.n) h.all ?_;have a:=l.all;rw[e.os.1] at a;refine iq.base (m':=yd y) S (λ_ _=>rfl) (λi hi => ?_) (λi j _ _ => ?_) (Nat.le_refl s.os.n) a
 .exact(e.os.2 i (by rw[e.os.1];exact hi)).2.1
 show ew y b g (ey y b g seen) i j=ew s b g (ey s b g seen) i j;rw[f,c.2]
theorem acj{x t:Ax}(r:ar p s)(e:af y s)(a:ru t x):doE p y t=doE p s x/\(doE p s x=0->af (doT p y t) (doT p s x)):=by
 obtain⟨H,G,E,J,K,D⟩:=t;obtain⟨A,z,ab,B,w,q,o⟩:=a;simp only at A z ab B w q o;subst A z ab B w;have hs:ag p y=0:=j8 (e.right r);have v:ag p s=0:=j8 r;unfold doE doT;dsimp only;by_cases l:x.k=1
 .rw[if_pos l,if_pos l,if_pos l,if_pos l];refine⟨Xd r e _ _ _,λh => ?_⟩;obtain⟨-,L,F,-⟩:=Ll h;exact Xf r e (by omega) (by omega) _
 rw[if_neg l,if_neg l,if_neg l,if_neg l];by_cases i:x.k=2
 .rw[if_pos i,if_pos i,if_pos i,if_pos i];exact⟨Ue r e q o,λ_=>Uf e q o⟩
 rw[if_neg i,if_neg i,if_neg i,if_neg i];by_cases d:x.k=3
 .rw[if_pos d,if_pos d,if_pos d,if_pos d];exact⟨hs.trans v.symm,λ_=>Zx r e⟩
 rw[if_neg d,if_neg d,if_neg d,if_neg d];by_cases m:x.k=4
 .rw[if_pos m,if_pos m,if_pos m,if_pos m];exact⟨R3 r e _,λh=>Fu e (by rw[e.os.1];exact(Aw h).2.1.2)⟩
 rw[if_neg m,if_neg m,if_neg m,if_neg m];by_cases n:x.k=5
 .rw[if_pos n,if_pos n,if_pos n,if_pos n];exact⟨Ww r e _ _ _ _,λh=>Wy e (N5 h)⟩
 rw[if_neg n,if_neg n,if_neg n,if_neg n];by_cases c:x.k=6
 .rw[if_pos c,if_pos c,if_pos c,if_pos c];exact⟨hs.trans v.symm,λ_=>Wd r e⟩
 rw[if_neg c,if_neg c,if_neg c,if_neg c];by_cases j:x.k=7
 .rw[if_pos j,if_pos j,if_pos j,if_pos j];exact⟨Uj r e _ _,λh=>by obtain⟨f,b,g,N,hi⟩:=Lj h;exact Uk e hi⟩
 rw[if_neg j,if_neg j,if_neg j,if_neg j];by_cases u:x.k=8
 .rw[if_pos u,if_pos u];exact⟨T9 r e _ _ _,λh=>Ua e (Kz h)⟩
 rw[if_neg u,if_neg u];exact⟨rfl,λh=>absurd h (by decide)⟩
end
def hdN(l:Hd):List Int:=[l.o,l.l,l.b,l.n]
def vm(x:Ax):List Int:=[x.k,x.a,x.b,x.c,x.n,(x.ls.n:Int)]
def ro(z:Nat->Hd):Nat->List Int
 | 0=>[]
 | n+1=>ro z n++hdN (z n)
theorem yx(z:Nat->Hd):∀n,(ro z n).length=4*n
 | 0=>rfl
 | n+1=>by rw[ro,List.length_append,yx z n];simp[hdN];omega
def xf(x:Ax):List Int:=vm x++ro x.ls.z x.ls.n
theorem L3(x:Ax):(xf x).length=6+4*x.ls.n:=by
 unfold xf;rw[List.length_append,yx]
 rfl
def mm(x:Ax):Int:=if (xf x).any o7 then 3 else if 3<x.ls.n then 2 else 0
def lj(x:Ax):List UInt8:=(xf x).map zt
def wm(x:Ax):List UInt8:=if mm x=0 then lj x else []
theorem Dq(x:Ax):(lj x).length=6+4*x.ls.n:=by
 unfold lj;rw[List.length_map,L3]
theorem Cs{x:Ax}(h:mm x=0):(xf x).any o7=false/\x.ls.n<=3:=by
 unfold mm at h;cases c:(xf x).any o7
 .rw[c] at h;simp only[Bool.false_eq_true,if_false] at h;refine⟨rfl,?_⟩;by_cases d:3<x.ls.n
  .rw[if_pos d] at h;cases h
  omega
 rw[c] at h;simp at h
def rdL(t:List UInt8)(i:Nat):Hd:=⟨rdN t i,rdN t (i+1),rdN t (i+2),rdN t (i+3)⟩
def rdC(t:List UInt8)(k:Nat):Nat:=(rdN t (k+5)).toNat
theorem Zu(t:List UInt8)(k:Nat):(rdC t k:Int)=rdN t (k+5):=by
 have:=v9 t (k+5);unfold rdC;omega
def rdZ(t:List UInt8)(k j:Nat):Hd:=if j<rdC t k then rdL t (k+6+4*j) else ⟨0,0,0,0⟩
theorem S8{k:Nat}(h:j<rdC t k):rdZ t k j=rdL t (k+6+4*j):=if_pos h
def rdA(t:List UInt8)(k:Nat):Ax:=⟨rdN t k,rdN t (k+1),rdN t (k+2),rdN t (k+3),rdN t (k+4),⟨none,rdC t k,0,rdZ t k⟩⟩
def i7(t:List UInt8)(k:Nat):Nat:=6+4*rdC t k
def mg(t:List UInt8)(k:Nat):Bool:=decide (k+6<=t.length)&&decide (rdC t k<=3)&&decide (k+i7 t k<=t.length)
theorem ri{k:Nat}:mg t k=true↔k+6<=t.length/\rdC t k<=3/\k+i7 t k<=t.length:=by
 unfold mg;simp only[Xxx,decide_eq_true_eq,and_assoc]
def sk(t:List UInt8):Nat->Nat->List Ax × Nat
 | 0,k=>([],k)
 | f+1,k=>if mg t k then(rdA t k :: (sk t f (k+i7 t k)).1,(sk t f (k+i7 t k)).2) else([],k)
theorem Mf{f k:Nat}(h:mg t k=true):sk t (f+1) k=(rdA t k :: (sk t f (k+i7 t k)).1,(sk t f (k+i7 t k)).2):=by rw[sk,if_pos h]
theorem Km{f k:Nat}(h:mg t k=false):sk t f k=([],k):=by
 cases f with
 | zero=>rfl
 | succ f=>rw[sk,if_neg (by rw[h];decide)]
def tt(t:List UInt8):Int:=if 4096<t.length then 2 else 0
def nf(t:List UInt8):List Ax:=if 4096<t.length then [] else(sk t 60 0).1
def C4(t:List UInt8):Nat:=if 4096<t.length then 0 else(sk t 60 0).2
theorem Tb(t:List UInt8):∀f k,(sk t f k).1.length<=f
 | 0,_=>Nat.le_refl _
 | f+1,k=>by
  cases h:mg t k
  .rw[Km h];exact Qxz _
  rw[Mf h];have:=Tb t f (k+i7 t k);simp only[List.length_cons];omega
theorem Tc(t:List UInt8):(nf t).length<=60:=by
 unfold nf;by_cases h:4096<t.length
 .rw[if_pos h];exact Qxz _
 rw[if_neg h];exact Tb _ _ _
def ut(p:Pl)(s:St)(x:Ax):St:=if doE p s x=0 then doT p s x else s
def jb(p:Pl)(s:St)(l:List Ax):St:=l.foldl (ut p) s
theorem Lb{x:Ax}(r:ar p s):ar p (ut p s x):=by
 unfold ut;by_cases h:doE p s x=0
 .rw[if_pos h];exact(Si h).2
 rw[if_neg h];exact r
theorem wn{p:Pl}:∀(l:List Ax) {s:St},ar p s->ar p (jb p s l)
 | [],_,r=>r
 | x :: l,s,r=>wn l (s:=ut p s x) (Lb r)
theorem Nd{x b:Ax}(r:ar p s)(e:af y s)(a:ru b x):af (ut p y b) (ut p s x):=by
 obtain⟨d,c⟩:=acj r e a;unfold ut;rw[d];by_cases h:doE p s x=0
 .rw[if_pos h,if_pos h];exact c h
 rw[if_neg h,if_neg h];exact e
structure As where
 a:Option Addr
 n:Nat
 c:Nat
 z:Nat->Ax
def As.val(s:As):Value := .slice s.a s.n s.c
def p9(x:Ax):List Value:=[.int .i64 x.k,.int .i64 x.a,.int .i64 x.b,.int .i64 x.c,.int .i64 x.n,.slice x.ls.a x.ls.n x.ls.c]
def vj:Nat->(Nat->Ax)->List Value
 | 0,_=>[]
 | n+1,z=>vj n z++p9 (z n)
theorem Fa(z:Nat->Ax):∀n,(vj n z).length=n*6
 | 0=>rfl
 | n+1=>by rw[vj,List.length_append,Fa z n];simp[p9];omega
theorem Lf{z z':Nat->Ax}:∀{n:Nat},(∀i,i<n->z i=z' i)->vj n z=vj n z'
 | 0,_=>rfl
 | n+1,h=>by rw[vj,vj,Lf λi hi=>h i (by omega),h n (by omega)]
theorem P6{z:Nat->Ax}:∀{n i j:Nat},i<n->j<6->(vj n z).getD (i*6+j) default=(p9 (z i)).getD j default
 | 0,_,_,h,_=>absurd h (Qzq _)
 | n+1,i,j,hi,hj=>by
  rw[vj];by_cases h:i=n
  .subst h;simp only[List.getD];rw[List.getElem?_append_right (by rw[Fa];omega),Fa]
   congr 2
   omega
  have:=P6 (z:=z) (n:=n) (i:=i) (j:=j) (by omega) hj;simp only[List.getD] at this ⊢;rw[List.getElem?_append_left (by rw[Fa];omega)];exact this
structure As.At(w:World)(s:As):Prop where
 le:s.n<=s.c
 cap:s.c<=maxLen
 cells:∀i,i<s.n->∃b o,s.a=some ⟨b,o,none⟩/\∀j,j<6->w.cell? ⟨b,o+(i*6+j),none⟩=some ((p9 (s.z i)).getD j default)
 lines:∀i,i<s.n->(s.z i).ls.At w
def zx(j:Nat):Value:=(#[.int .i64 0,.int .i64 0,.int .i64 0,.int .i64 0,.int .i64 0,.slice none 0 0]:Array Value).getD j default
theorem Ry(w:World):(Instr.typeAssert (.iface 32 (.int .i64 1)) 20 32 false).run prog w = .ok (.int .i64 1) w:=by
 unfold Instr.typeAssert;simp[run_underlying underlying32,Sem.run_bind,Sem.run_pure,Result.andThen]
theorem ada(X E:Nat)(fx t:Nat->Value)(w:World)(b:Blk w X 47 6 fx)(g:Blk w E 32 1 t)(f:List PanicEntry):
  CallsD prog 86 #[.pointer (some ⟨X,0,none⟩),.pointer (some ⟨E,0,none⟩)] (.panicking ({ v := .iface 32 (.int .i64 1),recovered:=false } :: f)) w λe x m =>
   e = .returned (.tuple #[])/\x = .panicking ({ v := .iface 32 (.int .i64 1),recovered:=true } :: f)/\Blk m X 47 6 zx/\Blk m E 32 1 (λ_ => .int .i64 1)/\∀B,B<=X->B<=E->Below B w m:=by
 have T:=b.lt;have S:=g.lt;have H:=b.k 0;have F:=b.frozen 0;have K:=b.k 1;have y:=b.frozen 1;have M:=b.k 2;have z:=b.frozen 2;have D:=b.k 3;have P:=b.frozen 3;have J:=b.k 4;have L:=b.frozen 4;have G:=b.k 5;have Q:=b.frozen 5;have W:=g.k 0;have U:=g.frozen 0;have c:X≠E:=Blk.ne2 b g (by decide);have A:=Ry;have r:=Blk.other (((((((b.set 0 (.int .i64 0)).set 1 (.int .i64 0)).set 2 (.int .i64 0)).set 3 (.int .i64 0)).set 4 (.int .i64 0)).set 5 (.slice none 0 0))) (a:=⟨E,0,none⟩) c (.int .i64 1);have l:=r.congr (f':=zx) (λj n=>by match j,n with|0,_|1,_|2,_|3,_|4,_|5,_=>rfl);have q:=Blk.set ((((((g.other (a:=⟨X,0,none⟩) c.symm (.int .i64 0)).other (a:=⟨X,1,none⟩) c.symm (.int .i64 0)).other (a:=⟨X,2,none⟩) c.symm (.int .i64 0)).other (a:=⟨X,3,none⟩) c.symm (.int .i64 0)).other (a:=⟨X,4,none⟩) c.symm (.int .i64 0)).other (a:=⟨X,5,none⟩) c.symm (.slice none 0 0)) 0 (.int .i64 1);have i:=q.congr (f':=λ_ => .int .i64 1) (λj n=>by match j,n with|0,_=>rfl);have h:=λ(B:Nat) (d:B<=X) (o:B<=E)=>((((((((Below.refl B w).setCell (p:=⟨X,0,none⟩) d (.int .i64 0)).setCell (p:=⟨X,1,none⟩) d (.int .i64 0)).setCell (p:=⟨X,2,none⟩) d (.int .i64 0)).setCell (p:=⟨X,3,none⟩) d (.int .i64 0)).setCell (p:=⟨X,4,none⟩) d (.int .i64 0)).setCell (p:=⟨X,5,none⟩) d (.slice none 0 0)).setCell (p:=⟨E,0,none⟩) o (.int .i64 1));have u:=qa3 l i h;clear r l q i h b g;refine callsD_of_wpS func86 rfl λV cs s => ?_
 apply wpS_seq
 apply wpS_region
 simp[wpOpsS,go_sem,recoverD,s,ntmps86,Exit.thenS];refine wpS_of_wp ?_;simp only[Array.replicate_succ,Array.replicate_zero,List.push_toArray,Qvq,Qwx,Qwz,List.append_toArray,Xqx,Xqz];go_wp2_with fail
 go_region
 obtain⟨l,i,h⟩:=u.out;refine⟨rfl,_,rfl,.tuple #[],by simp[results,results86],rfl,rfl,?_,?_,λB d o => ?_⟩
 .exact Blk.below l (brf.drew)
 .exact Blk.below i (brf.drew)
 exact(h B d o).drew
theorem aea(X E:Nat)(w:World):
  CallsD prog 86 #[.pointer (some ⟨X,0,none⟩),.pointer (some ⟨E,0,none⟩)] .returning w λe c a=>e = .returned (.tuple #[])/\c = .returning/\a=w:=by
 refine callsD_of_wpS func86 rfl λd cs b => ?_
 apply wpS_seq
 apply wpS_region
 simp[wpOpsS,go_sem,recoverD,b,ntmps86,Exit.thenS];refine wpS_of_wp ?_;simp only[Array.replicate_succ,Array.replicate_zero,List.push_toArray,Qvq,Qwx,Qwz,List.append_toArray,Xqx,Xqz];go_wp2_with fail;cases d
 simp_all[bodyPostS,results,results86]
def Oo(R:Nat)(t:List UInt8)(k:Nat)(w w':World)(e:Ending):Prop :=
 ((mg t k=true/\∃ls:Hs,e = .returned (.tuple #[(Ax.mk (rdN t k) (rdN t (k+1)) (rdN t (k+2)) (rdN t (k+3)) (rdN t (k+4)) ls).val,.int .i64 0])/\ls.n=rdC t k/\(∀j,j<ls.n->ls.z j=rdL t (k+6+4*j))/\cw w.heap.size 59 w' ls/\n9 R w' t (k+i7 t k)) \/
  (mg t k=false/\e = .returned (.tuple #[.agg #[.int .i64 0,.int .i64 0,.int .i64 0,.int .i64 0,.int .i64 0,.slice none 0 0],.int .i64 1])))/\Bt R w w'
theorem rq.ofBlk{n:Nat}{f:Nat->Value}(h:Blk w b e n f)(c:j<n){z:Int}(a:f j = .int .i64 z):rq w ⟨b,j,none⟩:=⟨⟨z,(h.cell c).trans (by rw[a])⟩,h.frozen j,h.lt⟩
def hx(t:List UInt8)(k:Nat)(v:Value)(j:Nat):Value:=(#[.int .i64 (rdN t k),.int .i64 (rdN t (k+1)),.int .i64 (rdN t (k+2)),.int .i64 (rdN t (k+3)),.int .i64 (rdN t (k+4)),v]:Array Value).getD j default
def yt(X L:Nat):List Addr:=[⟨X,0,none⟩,⟨X,1,none⟩,⟨X,2,none⟩,⟨X,3,none⟩,⟨X,4,none⟩,⟨L,0,none⟩]
def Dg(B:Nat):List Addr:=[⟨B,0,none⟩,⟨B,1,none⟩,⟨B,2,none⟩,⟨B,3,none⟩]
theorem Y7{k:Nat}{o:Nat->Value}(n:Blk w A 47 6 zx)(p:Blk w L 3 1 o)(b:A≠L)(d:A≠R)(c:L≠R):
  Blk (getW R t (yt A L) k w) A 47 6 (hx t k (.slice none 0 0))/\Blk (getW R t (yt A L) k w) L 3 1 (λ_ => .int .i64 (rdN t (k+5))):=by
 simp only[yt,getW];refine⟨?_,?_⟩
 .have i:=(n.set 0 (.int .i64 (rdN t k))).other (a:=⟨R,1,none⟩) d (.int .i64 ((k+1:Nat):Int));have e:=(i.set 1 (.int .i64 (rdN t (k+1)))).other (a:=⟨R,1,none⟩) d (.int .i64 ((k+1+1:Nat):Int));have m:=(e.set 2 (.int .i64 (rdN t (k+1+1)))).other (a:=⟨R,1,none⟩) d (.int .i64 ((k+1+1+1:Nat):Int));have f:=(m.set 3 (.int .i64 (rdN t (k+1+1+1)))).other (a:=⟨R,1,none⟩) d (.int .i64 ((k+1+1+1+1:Nat):Int));have l:=(f.set 4 (.int .i64 (rdN t (k+1+1+1+1)))).other (a:=⟨R,1,none⟩) d (.int .i64 ((k+1+1+1+1+1:Nat):Int));have g:=(l.other (a:=⟨L,0,none⟩) b (.int .i64 (rdN t (k+1+1+1+1+1)))).other (a:=⟨R,1,none⟩) d (.int .i64 ((k+1+1+1+1+1+1:Nat):Int));exact g.congr (λj h=>by match j,h with|0,_|1,_|2,_|3,_|4,_|5,_=>rfl)
 have i:=(p.other (a:=⟨A,0,none⟩) b.symm (.int .i64 (rdN t k))).other (a:=⟨R,1,none⟩) c (.int .i64 ((k+1:Nat):Int));have e:=(i.other (a:=⟨A,1,none⟩) b.symm (.int .i64 (rdN t (k+1)))).other (a:=⟨R,1,none⟩) c (.int .i64 ((k+1+1:Nat):Int));have m:=(e.other (a:=⟨A,2,none⟩) b.symm (.int .i64 (rdN t (k+1+1)))).other (a:=⟨R,1,none⟩) c (.int .i64 ((k+1+1+1:Nat):Int));have f:=(m.other (a:=⟨A,3,none⟩) b.symm (.int .i64 (rdN t (k+1+1+1)))).other (a:=⟨R,1,none⟩) c (.int .i64 ((k+1+1+1+1:Nat):Int));have l:=(f.other (a:=⟨A,4,none⟩) b.symm (.int .i64 (rdN t (k+1+1+1+1)))).other (a:=⟨R,1,none⟩) c (.int .i64 ((k+1+1+1+1+1:Nat):Int));have g:=(l.set 0 (.int .i64 (rdN t (k+1+1+1+1+1)))).other (a:=⟨R,1,none⟩) c (.int .i64 ((k+1+1+1+1+1+1:Nat):Int));exact g.congr (λj h=>by match j,h with|0,_=>rfl)
theorem Zh{B k:Nat}{f:Nat->Value}(g:Blk w B 59 4 f)(b:B≠R):
  Blk (getW R t (Dg B) k w) B 59 4 (λj=>(dc (rdL t k)).getD j default):=by
 simp only[Dg,getW];have c:=(g.set 0 (.int .i64 (rdN t k))).other (a:=⟨R,1,none⟩) b (.int .i64 ((k+1:Nat):Int));have i:=(c.set 1 (.int .i64 (rdN t (k+1)))).other (a:=⟨R,1,none⟩) b (.int .i64 ((k+1+1:Nat):Int));have h:=(i.set 2 (.int .i64 (rdN t (k+1+1)))).other (a:=⟨R,1,none⟩) b (.int .i64 ((k+1+1+1:Nat):Int));have d:=(h.set 3 (.int .i64 (rdN t (k+1+1+1)))).other (a:=⟨R,1,none⟩) b (.int .i64 ((k+1+1+1+1:Nat):Int));exact d.congr (λj e=>by match j,e with|0,_|1,_|2,_|3,_=>rfl)
def R7(X:Nat):Deferred:={ target := .fn (.func 86) #[.pointer (some ⟨X,0,none⟩),.pointer (some ⟨X+1,0,none⟩)],args:=#[] }
theorem Iq{k:Nat}{c:World}{tmps:Array Value}(j:tmps.getD 2 undef = .pointer (some ⟨w.heap.size,0,none⟩))(i:tmps.getD 3 undef = .pointer (some ⟨w.heap.size+1,0,none⟩))
  (d:Shp c w.heap.size 47 6) (g:Shp c (w.heap.size+1) 32 1) (p:Bt R w c) (h:mg t k=false) :
  Leaves prog Tryz.f40 tmps (λe r=>Oo R t k w r e) [R7 w.heap.size] (.panicking [{ v := .iface 32 (.int .i64 1),recovered:=false }]) c:=by
 rw[Array.getD_eq_getD_getElem?] at j i;obtain⟨fx,d⟩:=d;obtain⟨m,g⟩:=g;refine leaves_cons (f:=86) (args:=#[.pointer (some ⟨w.heap.size,0,none⟩),.pointer (some ⟨w.heap.size+1,0,none⟩)]) (by simp) (by simp[go_sem]) ?_;refine(ada w.heap.size (w.heap.size+1) fx m c d g []).mono ?_;rintro e z a ⟨rfl,rfl,b,l,n⟩;have s:a.cell? ⟨w.heap.size,0,none⟩=some (.int .i64 0):=b.k 0;have x:a.cell? ⟨w.heap.size,1,none⟩=some (.int .i64 0):=b.k 1;have u:a.cell? ⟨w.heap.size,2,none⟩=some (.int .i64 0):=b.k 2;have o:a.cell? ⟨w.heap.size,3,none⟩=some (.int .i64 0):=b.k 3;have q:a.cell? ⟨w.heap.size,4,none⟩=some (.int .i64 0):=b.k 4;have y:a.cell? ⟨w.heap.size,5,none⟩=some (.slice none 0 0):=b.k 5;have e0:a.cell? ⟨w.heap.size+1,0,none⟩=some (.int .i64 1):=l.k 0;refine⟨.tuple #[.agg #[.int .i64 0,.int .i64 0,.int .i64 0,.int .i64 0,.int .i64 0,.slice none 0 0],.int .i64 1],?_,Or.inr ⟨h,rfl⟩,p.thenB (n _ nlr (by omega))⟩;simp[results,results40,go_sem,j,i,s,x,u,o,q,y,e0]
theorem T1{k:Nat}{tmps:Array Value}(l:tmps.getD 2 undef = .pointer (some ⟨w.heap.size,0,none⟩))(i:tmps.getD 3 undef = .pointer (some ⟨w.heap.size+1,0,none⟩)){a:Option Addr}
  (g:Blk d w.heap.size 47 6 (hx t k (.slice a (rdC t k) c))) (o:Blk d (w.heap.size+1) 32 1 (λ_ => .int .i64 0)) (q:Bt R w d) (h:mg t k=true) (x:d.ownsRow w.heap.size 59 4 (.slice a (rdC t k) c) (rdC t k) (ay (rdC t k) (λj=>rdL t (k+6+4*j)))) (B:n9 R d t (k+i7 t k)) :
  Leaves prog Tryz.f40 tmps (λe u=>Oo R t k w u e) [R7 w.heap.size] .returning d:=by
 rw[Array.getD_eq_getD_getElem?] at l i;refine leaves_cons (f:=86) (args:=#[.pointer (some ⟨w.heap.size,0,none⟩),.pointer (some ⟨w.heap.size+1,0,none⟩)]) (by simp) (by simp[go_sem]) ?_;refine(aea w.heap.size (w.heap.size+1) d).mono ?_;rintro e F b ⟨rfl,rfl,rfl⟩;obtain⟨ls,s,D,E,m⟩:=cw.ofRow x nlr;have v:b.cell? ⟨w.heap.size,0,none⟩=some (.int .i64 (rdN t k)):=g.k 0;have z:b.cell? ⟨w.heap.size,1,none⟩=some (.int .i64 (rdN t (k+1))):=g.k 1;have y:b.cell? ⟨w.heap.size,2,none⟩=some (.int .i64 (rdN t (k+2))):=g.k 2;have p:b.cell? ⟨w.heap.size,3,none⟩=some (.int .i64 (rdN t (k+3))):=g.k 3;have r:b.cell? ⟨w.heap.size,4,none⟩=some (.int .i64 (rdN t (k+4))):=g.k 4;have A:b.cell? ⟨w.heap.size,5,none⟩=some (.slice ls.a ls.n ls.c):=(g.k 5).trans (congrArg some s);have e0:b.cell? ⟨w.heap.size+1,0,none⟩=some (.int .i64 0):=o.k 0;refine⟨.tuple #[(Ax.mk (rdN t k) (rdN t (k+1)) (rdN t (k+2)) (rdN t (k+3)) (rdN t (k+4)) ls).val,.int .i64 0],?_,Or.inl ⟨h,ls,rfl,E,λj _=>by rw[m],D,B⟩,q⟩;simp[results,results40,go_sem,l,i,v,z,y,p,r,A,e0,Ax.val,Ax.cells]
theorem U9{m:Nat}{b:World}{t:TypeId}{size:Nat}{n:Nat}{f:Nat->Value}(h:w.ownsRow A e size v n xs)(j:Bt R w b)(d:Blk w R t m f)(c:e≠t):b.ownsRow A e size v n xs:=by
 refine⟨h.1,h.2.imp_right λ⟨g,cap,cur,h1,h2,h3,h4⟩=>⟨g,cap,cur,h1,h2,?_,h4⟩⟩;rw[j.block g (Qkq h3).1 (λi=>by
  obtain⟨c2,a,_⟩:=d;subst i;rw[a] at h3;cases h3;exact c rfl)]
 exact h3
structure Mid(R k m X:Nat)(t:List UInt8)(w wk:World)(v:Value)(n:Nat):Prop where
 x:Blk wk X 47 6 (hx t k v)
 o:wk.ownsRow X 59 4 v n (ay n (λj=>rdL t (k+6+4*j)))
 e:Blk wk (X+1) 32 1 (λ_ => .int .i64 0)
 r:n9 R wk t m
 b:Bt R w wk
theorem Mid.set{k m n:Nat}(h:Mid R k m A t w d v n)(f:w.heap.size<=A)(l:A≠R)(u:Value)(g:hx t k v j=u):Mid R k m A t w (d.setCell ⟨A,j,none⟩ u) v n :=
 ⟨(h.x.set j u).congr (λi _=>by by_cases c:i=j<;>simp[c,g]),za h.o h.x (by decide) j u,h.e.other (a:=⟨A,j,none⟩) (by dsimp only;omega) u,Blk.other h.r (a:=⟨A,j,none⟩) (by dsimp only;omega) u,h.b.set (p:=⟨A,j,none⟩) (Or.inr f) u⟩
theorem Mid.setE{k m n:Nat}{c:World}(h:Mid R k m A t w c v n)(d:w.heap.size<=A)(f:A+1≠R):Mid R k m A t w (c.setCell ⟨A+1,0,none⟩ (.int .i64 0)) v n :=
 ⟨h.x.other (a:=⟨A+1,0,none⟩) (by dsimp only;omega) _,za h.o h.e (by decide) 0 _,(h.e.set 0 _).congr (λi _=>by simp),Blk.other h.r (a:=⟨A+1,0,none⟩) (by dsimp only;omega) _,h.b.set (p:=⟨A+1,0,none⟩) (Or.inr (by dsimp only;omega)) _⟩
theorem Mid.bt{k m m' n:Nat}(h:Mid R k m A t w d v n)(c:Bt R d a)(f:A≠R)(g:A+1≠R)(i:n9 R a t m'):Mid R k m' A t w a v n :=
 ⟨c.blk h.x f,U9 h.o c h.r (by decide),c.blk h.e g,i,h.b.trans c⟩
theorem Mid.grew{k m n:Nat}{o:World}{c:Value}(h:Mid R k m A t w o v n)(f:qn A 59 o d)(q:w.heap.size<=A)(y:d.ownsRow A 59 4 c l (ay l (λj=>rdL t (k+6+4*j))))(z:A≠R):Mid R k m A t w (d.setCell ⟨A,5,none⟩ c) c l:=by
 have g:=f.blk h.x (by decide);have s:=f.blk h.e (by decide);have u:n9 R d t m:=f.blk h.r (by decide);exact⟨(g.set 5 c).congr (λi hi=>by match i,hi with|0,_|1,_|2,_|3,_|4,_|5,_=>rfl),za y g (by decide) 5 c,s.other (a:=⟨A,5,none⟩) (by dsimp only;omega) c,Blk.other u (a:=⟨A,5,none⟩) (by dsimp only;omega) c,(h.b.grew f q).set (p:=⟨A,5,none⟩) (Or.inr q) c⟩
theorem Zp(w:World)(Z:Hd)(e:TypeId):∀j u,(dc Z)[j]?=some u->(w.alloc (.cells #[.int .i64 Z.o,.int .i64 Z.l,.int .i64 Z.b,.int .i64 Z.n] e)).cell? ((⟨w.heap.size,0,none⟩:Addr).add j)=some u:=by
 intro j u c;have d:(⟨w.heap.size,0,none⟩:Addr).add j=⟨w.heap.size,j,none⟩:=by
  unfold Addr.add;by_cases h:j=0
  .subst h;rfl
  rw[if_neg h];simp
 rw[d];have K:=Blk.new w #[.int .i64 Z.o,.int .i64 Z.l,.int .i64 Z.b,.int .i64 Z.n] e;have a:j<4:=(List.getElem?_eq_some_iff.1 c).1;rw[K.cell (j:=j) a,<-c]
 match j,a with
 | 0,_|1,_|2,_|3,_=>rfl
theorem acf(R:Nat)(t:List UInt8)(k:Nat)(w:World)(hR:n9 R w t k)(hk:k<=t.length)(ht:t.length<=4096):
  Calls prog 40 #[.pointer (some ⟨R,0,none⟩)] w λe w'=>Oo R t k w w' e:=by
 have bp:∀(fn:Fn) (first cap:Array Value) (w:World),(Instr.makeFunc fn first cap).run prog w = .ok (.func fn first cap) w:=λ_ _ _ _=>rfl;have HR:=hid hR;have HK:=qa2 hk ht;clear hR hk ht;have M:Hid (R<w.heap.size):=Blk.lt HR.out;obtain⟨J,hW,f,D,y,F,v⟩:∃W,(((w.alloc (.cells #[.int .i64 0,.int .i64 0,.int .i64 0,.int .i64 0,.int .i64 0,.slice none 0 0] 47)).alloc (.cells #[.int .i64 0] 32)).alloc (.cells #[.int .i64 0] 3)).alloc (.cells #[.pointer (some ⟨w.heap.size,0,none⟩),.pointer (some ⟨w.heap.size,1,none⟩),.pointer (some ⟨w.heap.size,2,none⟩),.pointer (some ⟨w.heap.size,3,none⟩),.pointer (some ⟨w.heap.size,4,none⟩),.pointer (some ⟨w.heap.size+1+1,0,none⟩)] 119)=W /\
   Blk W w.heap.size 47 6 zx/\Blk W (w.heap.size+1) 32 1 (λ_ => .int .i64 0)/\Blk W (w.heap.size+1+1) 3 1 (λ_ => .int .i64 0)/\Blk W (w.heap.size+1+1+1) 119 6 (λj => .pointer (some ((yt w.heap.size (w.heap.size+1+1)).getD j default)))/\Bt R w W :=
  ⟨_,rfl,((((Blk.mk' (cur:=#[.int .i64 0,.int .i64 0,.int .i64 0,.int .i64 0,.int .i64 0,.slice none 0 0]) rfl rfl).alloc _).alloc _).alloc _).congr (λj _=>rfl),(((Blk.mk' (cur:=#[.int .i64 0]) (by simp) rfl).alloc _).alloc _).congr (λj H=>by match j,H with|0,_=>rfl),((Blk.mk' (cur:=#[.int .i64 0]) (by simp) rfl).alloc _).congr (λj H=>by match j,H with|0,_=>rfl),
   (Blk.mk' (cur:=#[.pointer (some ⟨w.heap.size,0,none⟩),.pointer (some ⟨w.heap.size,1,none⟩),.pointer (some ⟨w.heap.size,2,none⟩),.pointer (some ⟨w.heap.size,3,none⟩),.pointer (some ⟨w.heap.size,4,none⟩),.pointer (some ⟨w.heap.size+1+1,0,none⟩)]) (by simp) rfl).congr (λj H=>by match j,H with|0,_|1,_|2,_|3,_|4,_|5,_=>rfl),((((Bt.refl R w).alloc _).alloc _).alloc _).alloc _⟩
 have HW:Hid ((((w.alloc (.cells #[.int .i64 0,.int .i64 0,.int .i64 0,.int .i64 0,.int .i64 0,.slice none 0 0] 47)).alloc (.cells #[.int .i64 0] 32)).alloc (.cells #[.int .i64 0] 3)).alloc (.cells #[.pointer (some ⟨w.heap.size,0,none⟩),.pointer (some ⟨w.heap.size,1,none⟩),.pointer (some ⟨w.heap.size,2,none⟩),.pointer (some ⟨w.heap.size,3,none⟩),.pointer (some ⟨w.heap.size,4,none⟩),.pointer (some ⟨w.heap.size+1+1,0,none⟩)] 119)=J):=hW;have ao:=qa5 f D y F v;have ak:Hid (n9 R J t k):=by
  have h:=HR.out;unfold n9 at h ⊢;rw[<-hW];exact(((h.alloc _).alloc _).alloc _).alloc _
 clear hW f D y F v
 go_enter_defers func40,ntmps40
 go_wp2_with fail;rw[HW.out];obtain⟨f,D,y,F,v⟩:=ao.out;have bj:w.heap.size≠R:=by have:=M.out;omega
 have G:∀p∈yt w.heap.size (w.heap.size+1+1),rq J p/\R≠p.block/\w.heap.size+1+1+1≠p.block:=by
  have cc:=M.out;intro p d;simp only[yt,List.mem_cons,List.not_mem_nil,or_false] at d;rcases d with rfl|rfl|rfl|rfl|rfl|rfl
  .exact⟨rq.ofBlk f (by decide) (z:=0) rfl,by dsimp only;omega,by dsimp only;omega⟩
  .exact⟨rq.ofBlk f (by decide) (z:=0) rfl,by dsimp only;omega,by dsimp only;omega⟩
  .exact⟨rq.ofBlk f (by decide) (z:=0) rfl,by dsimp only;omega,by dsimp only;omega⟩
  .exact⟨rq.ofBlk f (by decide) (z:=0) rfl,by dsimp only;omega,by dsimp only;omega⟩
  .exact⟨rq.ofBlk f (by decide) (z:=0) rfl,by dsimp only;omega,by dsimp only;omega⟩
  exact⟨rq.ofBlk y (by decide) (z:=0) rfl,by dsimp only;omega,by dsimp only;omega⟩
 have B:∀p∈yt w.heap.size (w.heap.size+1+1),p.block=R\/w.heap.size<=p.block:=by
  intro p d;simp only[yt,List.mem_cons,List.not_mem_nil,or_false] at d;rcases d with rfl|rfl|rfl|rfl|rfl|rfl<;>(right;dsimp only;omega)
 refine(U3 R (w.heap.size+1+1+1) t k (yt w.heap.size (w.heap.size+1+1)) J ak.out HK.out.1 HK.out.2 (by have:=M.out;omega) (by show 6<=100;decide) F G).mono ?_;rintro e w1 (⟨rfl,m,q⟩|⟨rfl,m,i,q⟩);rotate_left
 .have Q:mg t k=false:=by
   cases h:mg t k
   .rfl
   have h1:t.length<k+6:=m;have:=(ri.1 h).1;omega
  have aw:∀p∈(yt w.heap.size (w.heap.size+1+1)).take i,p.spot=none:=λp d=>by
   have d:=List.mem_of_mem_take d;simp only[yt,List.mem_cons,List.not_mem_nil,or_false] at d;rcases d with rfl|rfl|rfl|rfl|rfl|rfl<;>rfl
  obtain⟨fx,bw⟩:=Shp.getW (R:=R) (t:=t) _ k J aw ⟨_,f⟩;obtain⟨fe,bk⟩:=Shp.getW (R:=R) (t:=t) _ k J aw ⟨_,D⟩;exact Iq rfl rfl ⟨_,q.blk bw⟩ ⟨_,q.blk bk⟩ ((Gj R t _ k J v λp d=>B p (List.mem_of_mem_take d)).trans (q.bt R)) Q
 have U:k+6<=t.length:=m;have h1:=Y7 (R:=R) (t:=t) (k:=k) f y (by omega) bj (by have:=M.out;omega);have Y:Hid (Blk w1 w.heap.size 47 6 (hx t k (.slice none 0 0))):=q.blk h1.1;have ah:Hid (Blk w1 (w.heap.size+1) 32 1 (λ_ => .int .i64 0)):=q.blk (L7 R t _ k J (λp d=>by
  simp only[yt,List.mem_cons,List.not_mem_nil,or_false] at d;rcases d with rfl|rfl|rfl|rfl|rfl|rfl<;>(dsimp only;omega)) (by have:=M.out;omega) D)
 have ac:=q.blk h1.2;have ai:Hid (Bt R w w1):=(Gj R t _ k J v B).trans (q.bt R);have ap:Hid (n9 R w1 t (k+6)):=q.blk (n9.getW (yt w.heap.size (w.heap.size+1+1)) k J (λp d=>(G p d).2.1) ak.out);have l0:w1.cell? ⟨w.heap.size+1+1,0,none⟩=some (.int .i64 (rdC t k:Int)):=by rw[Zu];exact ac.k 0
 have l1:=ac.lt;clear f D y F v G B h1 ac q HW ao ak bp;by_cases h3:rdC t k<=3;rotate_left
 .have q3:(3:Int)<(rdC t k:Int):=by omega
  have Q:mg t k=false:=by
   cases h:mg t k
   .rfl
   exact absurd (ri.1 h).2.1 h3
  go_wp2_with fail;exact Iq rfl rfl ⟨_,Y.out⟩ ⟨_,ah.out⟩ ai.out Q
 have q3:¬(3:Int)<(rdC t k:Int):=by omega
 go_wp2_with fail;clear l0 l1 q3;have T:=qa3 h3 U HK.out.2;have n3:(rdC t k:Int)<=3:=by omega
 obtain⟨iL,bv,bd,bq,bx⟩:=info_parts Cv
 generalize hN:rdC t k=N at *
 have X:=hid hN;clear hN h3 m U;have g:Hid (w.heap.size≠R/\w.heap.size+1≠R):=by have:=M.out;exact⟨by omega,by omega⟩
 go_loopw [19] (λjv wk=>∃(j:Nat) (a:Option Addr) (c:Nat),j<=N/\jv = .int .i64 j/\Hid (Mid R k (k+6+4*j) w.heap.size t w wk (.slice a j c) j/\k+6+4*j<=t.length)) (λjv _=>N-(intOf jv).toNat)
 case atStart=>exact⟨0,none,0,Qxz _,rfl,⟨Y.out,World.ownsRow_nil _ _ _ _,ah.out,ap.out,ai.out⟩,T.out.2.1⟩
 obtain⟨j,a,c,H,rfl,A⟩:=hrel;clear Y ah ai ap;by_cases cd:j<N;rotate_left
 .have q1:¬(j:Int)<(N:Int):=by omega
  have bo:j=N:=by omega
  subst bo;have f:=A.out.1.x;have D:=A.out.1.e;have x0:wr.cell? ⟨w.heap.size,0,none⟩=some (.int .i64 (rdN t k)):=f.k 0;have x1:wr.cell? ⟨w.heap.size,1,none⟩=some (.int .i64 (rdN t (k+1))):=f.k 1;have x2:wr.cell? ⟨w.heap.size,2,none⟩=some (.int .i64 (rdN t (k+2))):=f.k 2;have x3:wr.cell? ⟨w.heap.size,3,none⟩=some (.int .i64 (rdN t (k+3))):=f.k 3;have x4:wr.cell? ⟨w.heap.size,4,none⟩=some (.int .i64 (rdN t (k+4))):=f.k 4;have x5:wr.cell? ⟨w.heap.size,5,none⟩=some (.slice a j c):=f.k 5;have f0:=f.frozen 0;have f1:=f.frozen 1;have f2:=f.frozen 2;have f3:=f.frozen 3;have f4:=f.frozen 4;have f5:=f.frozen 5;have xl:=f.lt;have e0:wr.cell? ⟨w.heap.size+1,0,none⟩=some (.int .i64 0):=D.k 0;have e1:=D.frozen 0;have el:=D.lt;clear f D;go_wp2_with fail;have hM:=((((((A.out.1.set nlr g.out.1 (j:=0) (.int .i64 (rdN t k)) rfl).set nlr g.out.1 (j:=1) (.int .i64 (rdN t (k+1))) rfl).set nlr g.out.1 (j:=2) (.int .i64 (rdN t (k+2))) rfl).set nlr g.out.1 (j:=3) (.int .i64 (rdN t (k+3))) rfl).set nlr g.out.1 (j:=4) (.int .i64 (rdN t (k+4))) rfl).set nlr g.out.1 (j:=5) (.slice a j c) rfl).setE nlr g.out.2;have a6:mg t k=true:=ri.2 ⟨T.out.2.1,by rw[X.out];exact T.out.1,by unfold i7;rw[X.out];have:=A.out.2;omega⟩;refine T1 (a:=a) (c:=c) rfl rfl (by rw[X.out];exact hM.x) hM.e hM.b a6 (by rw[X.out];exact hM.o) ?_;have hR:=hM.r;unfold i7;rw[X.out,show k+(6+4*j)=k+6+4*j by omega];exact hR
 have q1:(j:Int)<(N:Int):=by omega
 obtain⟨S,aq,y,F,v⟩:∃W,(wr.alloc (.cells #[.int .i64 0,.int .i64 0,.int .i64 0,.int .i64 0] 59)).alloc (.cells #[.pointer (some ⟨wr.heap.size,0,none⟩),.pointer (some ⟨wr.heap.size,1,none⟩),.pointer (some ⟨wr.heap.size,2,none⟩),.pointer (some ⟨wr.heap.size,3,none⟩)] 119)=W /\
   Blk W wr.heap.size 59 4 (λ_ => .int .i64 0)/\Blk W (wr.heap.size+1) 119 4 (λj => .pointer (some ((Dg wr.heap.size).getD j default)))/\Bt R wr W :=
  ⟨_,rfl,((Blk.mk' (cur:=#[.int .i64 0,.int .i64 0,.int .i64 0,.int .i64 0]) rfl rfl).alloc _).congr (λj H=>by match j,H with|0,_|1,_|2,_|3,_=>rfl),(Blk.mk' (cur:=#[.pointer (some ⟨wr.heap.size,0,none⟩),.pointer (some ⟨wr.heap.size,1,none⟩),.pointer (some ⟨wr.heap.size,2,none⟩),.pointer (some ⟨wr.heap.size,3,none⟩)]) (by simp) rfl).congr (λj H=>by match j,H with|0,_|1,_|2,_|3,_=>rfl),((Bt.refl R wr).alloc _).alloc _⟩
 have ag:Hid ((wr.alloc (.cells #[.int .i64 0,.int .i64 0,.int .i64 0,.int .i64 0] 59)).alloc (.cells #[.pointer (some ⟨wr.heap.size,0,none⟩),.pointer (some ⟨wr.heap.size,1,none⟩),.pointer (some ⟨wr.heap.size,2,none⟩),.pointer (some ⟨wr.heap.size,3,none⟩)] 119)=S):=aq;have au:=qa3 y F v;clear aq y F v;go_wp2_with fail;rw[ag.out];obtain⟨y,F,v⟩:=au.out;have bz:w.heap.size<=wr.heap.size:=A.out.1.b.size;have bg:R<wr.heap.size:=Blk.lt A.out.1.r;have aj:n9 R S t (k+6+4*j):=by
  have h:=A.out.1.r;unfold n9 at h ⊢;rw[<-ag.out];exact(h.alloc _).alloc _
 have G:∀p∈Dg wr.heap.size,rq S p/\R≠p.block/\wr.heap.size+1≠p.block:=by
  intro p d;simp only[Dg,List.mem_cons,List.not_mem_nil,or_false] at d;rcases d with rfl|rfl|rfl|rfl<;>exact⟨rq.ofBlk y (by decide) (z:=0) rfl,by dsimp only;omega,by dsimp only;omega⟩
 have B:∀p∈Dg wr.heap.size,p.block=R\/wr.heap.size<=p.block:=by
  intro p d;simp only[Dg,List.mem_cons,List.not_mem_nil,or_false] at d;rcases d with rfl|rfl|rfl|rfl<;>(right;dsimp only;omega)
 refine(U3 R (wr.heap.size+1) t (k+6+4*j) (Dg wr.heap.size) S aj A.out.2 T.out.2.2 (by omega) (by show 4<=100;decide) F G).mono ?_;rintro e s (⟨rfl,m,q⟩|⟨rfl,m,i,q⟩);rotate_left
 .have K:Bt R wr s:=(Gj R t _ _ S v λp d=>B p (List.mem_of_mem_take d)).trans (q.bt R);have Q:mg t k=false:=by
   cases h:mg t k
   .rfl
   have h1:t.length<k+6+4*j+4:=m;have h2:=(ri.1 h).2.2;unfold i7 at h2;rw[X.out] at h2;omega
  exact Iq rfl rfl ⟨_,K.blk A.out.1.x g.out.1⟩ ⟨_,K.blk A.out.1.e g.out.2⟩ (A.out.1.b.trans K) Q
 have K:Bt R wr s:=(Gj R t _ _ S v B).trans (q.bt R);have ax:n9 R s t (k+6+4*(j+1)):=q.blk (n9.getW (Dg wr.heap.size) _ S (λp d=>(G p d).2.1) aj);have P:Hid (Mid R k (k+6+4*(j+1)) w.heap.size t w s (.slice a j c) j):=A.out.1.bt K g.out.1 g.out.2 ax;have bb:=hid m;have E:=q.blk (Zh (R:=R) (t:=t) (k:=k+6+4*j) y (by omega));obtain⟨Z,hZ⟩:∃Z,rdL t (k+6+4*j)=Z:=⟨_,rfl⟩;rw[hZ] at E;have HZ:=hid hZ;have b0:s.cell? ⟨wr.heap.size,0,none⟩=some (.int .i64 Z.o):=E.k 0;have b1:s.cell? ⟨wr.heap.size,1,none⟩=some (.int .i64 Z.l):=E.k 1;have b2:s.cell? ⟨wr.heap.size,2,none⟩=some (.int .i64 Z.b):=E.k 2;have b3:s.cell? ⟨wr.heap.size,3,none⟩=some (.int .i64 Z.n):=E.k 3;have b4:=E.lt;have x5:s.cell? ⟨w.heap.size,5,none⟩=some (.slice a j c):=P.out.x.k 5;have xl:=P.out.x.lt;obtain⟨W5,ab,av,aa⟩:∃W,s.alloc (.cells #[.int .i64 Z.o,.int .i64 Z.l,.int .i64 Z.b,.int .i64 Z.n] 59)=W/\Below s.heap.size s W/\Bt R s W:=⟨_,rfl,brf.alloc nlr _,(Bt.refl _ _).alloc _⟩;have az:Hid (s.alloc (.cells #[.int .i64 Z.o,.int .i64 Z.l,.int .i64 Z.b,.int .i64 Z.n] 59)=W5):=ab;have a0:Hid (∀j u,(dc Z)[j]?=some u->W5.cell? ((⟨s.heap.size,0,none⟩:Addr).add j)=some u):=by rw[<-ab];exact Zp s Z _
 have L:Hid (Mid R k (k+6+4*(j+1)) w.heap.size t w W5 (.slice a j c) j):=P.out.bt aa g.out.1 g.out.2 (Blk.below P.out.r av);have br:=hid L.out.b.size;clear K ax E hZ ab av aa y F v G B q au ag aj bz bg m P;go_wp2_with(at_builtin;rw[az.out];refine wpList_append_own W5 rfl (.tmp 29) (.tmp 31) 45 rfl w.heap.size 59 iL (.agg #[.int .i64 0,.int .i64 0,.int .i64 0,.int .i64 0]) 4 32 underlying45 bv bd bq bx rfl (by decide) (.slice a j c) j (ay j (λj=>rdL t (k+6+4*j))) rfl L.out.o ⟨s.heap.size,0,none⟩ 1 1 (dc Z) rfl rfl a0.out (λu hu=>by simp[dc] at hu;rcases hu with rfl|rfl|rfl|rfl<;>rfl) (by unfold maxLen;omega) (by omega) br.out ?_);intro v2 w6 r1 r2 _;obtain⟨a2,c2,rfl,-⟩:=vq r1;have ar:w6.ownsRow w.heap.size 59 4 (.slice a2 (j+1) c2) (j+1) (ay (j+1) (λj=>rdL t (k+6+4*j))):=by
  rw[tw,HZ.out];exact r1
 have hg:=Ae L.out.o r2;have V:=hg.blk L.out.x (by decide);have bh:Hid (Mid R k (k+6+4*(j+1)) w.heap.size t w (w6.setCell ⟨w.heap.size,5,none⟩ (.slice a2 (j+1) c2)) (.slice a2 (j+1) c2) (j+1)):=L.out.grew hg nlr ar g.out.1;have y5:w6.cell? ⟨w.heap.size,5,none⟩=some (.slice a j c):=V.k 5;have y6:=V.frozen 5;have y7:=V.lt;clear r1 r2 ar hg V L a0 az b0 b1 b2 b3 b4 x5 xl
 try simp only[Act.put,Qvq,Qwx,Qwz]
 go_wp2_with fail;go_roundw
 case rel=>exact⟨j+1,a2,c2,by omega,by go_num,bh.out,bb.out⟩
 case measure=>simp[intOf];omega
theorem acv(l:List UInt8)(h:i<t.length):rdN (t++l) i=rdN t i:=by
 unfold rdN;simp only[List.getD];rw[List.getElem?_append_left h]
theorem tp(t l:List UInt8)(i:Nat):rdN (t++l) (t.length+i)=rdN l i:=by
 unfold rdN;simp only[List.getD];rw[List.getElem?_append_right (by omega)]
 congr 3
 congr 1
 omega
theorem Nx(z:Nat->Hd):∀{n i j:Nat},i<n->j<4->(ro z n)[4*i+j]?=(hdN (z i))[j]?
 | 0,_,_,h,_=>absurd h (Qzq _)
 | n+1,i,j,hi,hj=>by
  rw[ro];by_cases h:i=n
  .subst h;rw[List.getElem?_append_right (by rw[yx];omega),yx]
   congr 1
   omega
  rw[List.getElem?_append_left (by rw[yx];omega)];exact Nx z (by omega) hj
theorem Qq{x:Ax}(h:(xf x).any o7=false){v:Int}(a:(xf x)[i]?=some v):rdN (lj x) i=v:=by
 unfold rdN lj;simp only[List.getD,List.getElem?_map,a,Option.map_some,Option.getD_some];refine Yk ?_;rw[List.any_eq_false] at h;have:=h v (List.mem_of_getElem? a)
 simpa using this
theorem abj{x:Ax}(h:mm x=0)(l:List UInt8):mg (lj x++l) 0=true/\ru (rdA (lj x++l) 0) x/\i7 (lj x++l) 0=(lj x).length:=by
 obtain⟨r,o⟩:=Cs h;have g:=Dq x;have s:=L3 x;have d:∀i v,i<6+4*x.ls.n->(xf x)[i]?=some v->rdN (lj x++l) i=v:=λi v hi p=>by
  rw[acv l (by omega)];exact Qq r p
 have hc:rdC (lj x++l) 0=x.ls.n:=by
  unfold rdC;rw[d 5 (x.ls.n:Int) (by omega) rfl];omega
 refine⟨ri.2 ⟨?_,by rw[hc];exact o,?_⟩,⟨d 0 x.k (by omega) rfl,d 1 x.a (by omega) rfl,d 2 x.b (by omega) rfl,d 3 x.c (by omega) rfl,d 4 x.n (by omega) rfl,hc,λj f => ?_⟩,?_⟩
 .rw[List.length_append];omega
 .unfold i7;rw[hc,List.length_append];omega
 .show rdZ (lj x++l) 0 j=x.ls.z j;rw[S8 (by rw[hc];exact f)];have e:∀q,q<4->(xf x)[0+6+4*j+q]?=(hdN (x.ls.z j))[q]?:=λq m=>by
   unfold xf;rw[List.getElem?_append_right (by simp[vm];omega),show 0+6+4*j+q-(vm x).length=4*j+q by simp[vm];omega];exact Nx _ f m
  unfold rdL;rw[d (0+6+4*j) _ (by omega) (e 0 (by omega)),d (0+6+4*j+1) _ (by omega) (e 1 (by omega)),d (0+6+4*j+2) _ (by omega) (e 2 (by omega)),d (0+6+4*j+3) _ (by omega) (e 3 (by omega))]
 unfold i7;rw[hc,g]
theorem Ej(t l:List UInt8)(k:Nat):rdC (t++l) (t.length+k)=rdC l k:=by
 unfold rdC;rw[show t.length+k+5=t.length+(k+5) by omega,tp]
theorem F5(t l:List UInt8)(k:Nat):i7 (t++l) (t.length+k)=i7 l k:=by
 unfold i7;rw[Ej]
theorem Qr(t l:List UInt8)(k:Nat):mg (t++l) (t.length+k)=mg l k:=by
 unfold mg;rw[Ej,F5,List.length_append]
 congr 1
 .congr 1
  simp only[decide_eq_decide];omega
 simp only[decide_eq_decide];omega
theorem S7(t l:List UInt8)(i:Nat):rdL (t++l) (t.length+i)=rdL l i:=by
 unfold rdL;rw[tp,show t.length+i+1=t.length+(i+1) by omega,tp,show t.length+i+2=t.length+(i+2) by omega,tp,show t.length+i+3=t.length+(i+3) by omega,tp]
theorem abi(t l:List UInt8)(k:Nat):rdA (t++l) (t.length+k)=rdA l k:=by
 unfold rdA;rw[Ej,tp,show t.length+k+1=t.length+(k+1) by omega,tp,show t.length+k+2=t.length+(k+2) by omega,tp,show t.length+k+3=t.length+(k+3) by omega,tp,show t.length+k+4=t.length+(k+4) by omega,tp]
 congr 2
 funext j
 unfold rdZ;rw[Ej,show t.length+k+6+4*j=t.length+(k+6+4*j) by omega,S7]
theorem Qu(t l:List UInt8):∀f k,sk (t++l) f (t.length+k)=((sk l f k).1,t.length+(sk l f k).2)
 | 0,k=>rfl
 | f+1,k=>by
  rw[sk,sk,Qr,abi,F5];cases mg l k
  .rfl
  simp only[if_true];rw[show t.length+k+i7 l k=t.length+(k+i7 l k) by omega,Qu t l f]
def z5:List Ax->List Ax->Prop
 | [],[]=>True
 | x :: l,y :: m=>ru x y/\z5 l m
 | _,_=>False
theorem z5.len:∀{l m:List Ax},z5 l m->l.length=m.length
 | [],[],_=>rfl
 | _ :: _,_ :: _,h=>by rw[List.length_cons,List.length_cons,h.2.len]
 | [],_ :: _,h=>h.elim
 | _ :: _,[],h=>h.elim
def dy:List Ax->List UInt8
 | []=>[]
 | x :: l=>lj x++dy l
theorem Dr:∀(l m:List Ax),dy (l++m)=dy l++dy m
 | [],_=>rfl
 | x :: l,m=>by rw[Xqz,dy,dy,Dr l m,List.append_assoc]
theorem Lm(r:List UInt8):∀(xs:List Ax),(∀x∈xs,mm x=0)->∀f,∃ys,z5 ys xs/\sk (dy xs++r) (xs.length+f) 0=(ys++(sk r f 0).1,(dy xs).length+(sk r f 0).2)
 | [],_,f=>⟨[],trivial,by simp[dy]⟩
 | x :: xs,hx,f=>by
  obtain⟨ys,b,d⟩:=Lm r xs (λy c=>hx y (List.mem_cons_of_mem _ c)) f;have a:=abj (hx x (List.mem_cons_self ..)) (dy xs++r);refine⟨rdA (lj x++(dy xs++r)) 0 :: ys,⟨a.2.1,b⟩,?_⟩;rw[dy,List.append_assoc,List.length_cons,show xs.length+1+f=xs.length+f+1 by omega,Mf a.1,a.2.2,Nat.zero_add,List.length_append];have hd:=Qu (lj x) (dy xs++r) (xs.length+f) 0;rw[Nat.add_zero] at hd;rw[hd,d];simp only[Xqz,Nat.add_assoc]
theorem adk{x:Ax}(h:mm x=0){k:Nat}(g:k<(lj x).length):mg ((lj x).take k) 0=false:=by
 obtain⟨b,i⟩:=Cs h;have d:=Dq x;cases c:mg ((lj x).take k) 0
 .rfl
 exfalso;obtain⟨a1,f,a⟩:=ri.1 c;rw[List.length_take] at a1 a;have hc:rdC ((lj x).take k) 0=x.ls.n:=by
  unfold rdC;have e:rdN ((lj x).take k) (0+5)=rdN (lj x) 5:=by
   unfold rdN;simp only[List.getD];rw[List.getElem?_take,if_pos (by omega)]
  rw[e,Qq b (v:=(x.ls.n:Int)) rfl];omega
 unfold i7 at a;rw[hc] at a;omega
theorem Az{p:Pl}:∀{l m:List Ax} {y s:St},ar p s->af y s->z5 l m->af (jb p y l) (jb p s m)
 | [],[],_,_,_,e,_=>e
 | x :: l,x' :: m,y,s,r,e,h=>Az (l:=l) (m:=m) (y:=ut p y x) (s:=ut p s x') (Lb r) (Nd r e h.1) h.2
 | [],_ :: _,_,_,_,_,h=>h.elim
 | _ :: _,[],_,_,_,_,h=>h.elim
theorem Yw(p:Pl)(s:St)(l m:List Ax):jb p s (l++m)=jb p (jb p s l) m:=List.foldl_append ..
theorem U4:(prog.info? 47).map (λi=>(i.zero,i.size,i.bytes))=some (some (.agg #[.int .i64 0,.int .i64 0,.int .i64 0,.int .i64 0,.int .i64 0,.slice none 0 0]),6,64):=by kernel_rfl
def Rg:Value->Nat
 | .slice _ n _=>n
 | _=>0
theorem cw.bt{m:Nat}{t:TypeId}{s:Hs}{f:Nat->Value}(h:cw A e w s)(o:Bt R w a)(i:Blk w R t m f)(b:e≠t):cw A e a s:=by
 obtain⟨k,p,l,n⟩:=h;refine⟨k,p,l,λq => ?_⟩;obtain⟨g,d,j,c⟩:=n q;exact⟨g,d,j,o.blk c (Blk.ne2 c i b)⟩
theorem ab8(w:World)(x:Ax)(e:TypeId):∀j u,(p9 x)[j]?=some u->(w.alloc (.cells #[.int .i64 x.k,.int .i64 x.a,.int .i64 x.b,.int .i64 x.c,.int .i64 x.n,.slice x.ls.a x.ls.n x.ls.c] e)).cell? ((⟨w.heap.size,0,none⟩:Addr).add j)=some u:=by
 intro j u f;have g:(⟨w.heap.size,0,none⟩:Addr).add j=⟨w.heap.size,j,none⟩:=by
  unfold Addr.add;by_cases h:j=0
  .subst h;rfl
  rw[if_neg h];simp
 rw[g];have K:=Blk.new w #[.int .i64 x.k,.int .i64 x.a,.int .i64 x.b,.int .i64 x.c,.int .i64 x.n,.slice x.ls.a x.ls.n x.ls.c] e;have d:j<6:=(List.getElem?_eq_some_iff.1 f).1;rw[K.cell (j:=j) d,<-f]
 match j,d with
 | 0,_|1,_|2,_|3,_|4,_|5,_=>rfl
structure Rep(k:Nat)(t:List UInt8)(w wk:World)(v:Value)(l:List Ax)(zs:Nat->Ax):Prop where
 o:wk.ownsRow w.heap.size 47 6 v l.length (vj l.length zs)
 z:∀i (h:i<l.length),ru (zs i) l[i]/\cw w.heap.size 59 wk (zs i).ls
 kl:k<=t.length
 b:Below w.heap.size w wk
 rep:sk t 60 0=(l++(sk t (60-l.length) k).1,(sk t (60-l.length) k).2)
theorem Rep.below{k:Nat}{c:World}{l:List Ax}{zs:Nat->Ax}(h:Rep k t w c v l zs)(d:Below c.heap.size c a):Rep k t w a v l zs :=
 ⟨j6 h.o d,λi hi=>⟨(h.z i hi).1,(h.z i hi).2.below d⟩,h.kl,h.b.trans (d.mono h.b.size),h.rep⟩
theorem Rep.bt{k m:Nat}{c:World}{l:List Ax}{zs:Nat->Ax}(h:Rep k t w c v l zs)(d:Bt w.heap.size c a)(e:n9 w.heap.size c t m):Rep k t w a v l zs :=
 ⟨U9 h.o d e (by decide),λi hi=>⟨(h.z i hi).1,(h.z i hi).2.bt d e (by decide)⟩,h.kl,h.b.trans (d.below nlr h.b.size),h.rep⟩
def Dh(n:Nat)(zs:Nat->Ax)(x:Ax)(i:Nat):Ax:=if i=n then x else zs i
theorem Rep.more{k:Nat}{f:World}{j:Value}{l:List Ax}{zs:Nat->Ax}{x:Ax}(h:Rep k t w f v l zs)(e:mg t k=true)(hs:ru x (rdA t k))(n:cw w.heap.size 59 f x.ls)(p:l.length<60)(g:qn w.heap.size 47 f d)(m:d.ownsRow w.heap.size 47 6 j (l.length+1) (vj l.length zs++p9 x)):Rep (k+i7 t k) t w d j (l++[rdA t k]) (Dh l.length zs x):=by
 have a:(l++[rdA t k]).length=l.length+1:=by simp
 refine⟨?_,λi hi => ?_,(ri.1 e).2.2,g.below h.b nlr h.b.size,?_⟩
 .rw[a,vj,Lf (z':=zs) λi hi=>by unfold Dh;rw[if_neg (by omega)],show Dh l.length zs x l.length=x from if_pos rfl];exact m
 .have o:i<l.length+1:=by rw[<-a];exact hi
  by_cases c:i=l.length
  .subst c;rw[List.getElem_append_right nlr,show Dh l.length zs x l.length=x from if_pos rfl];simp only[Nat.sub_self,List.getElem_cons_zero];exact⟨hs,n.grew g (by decide)⟩
  rw[List.getElem_append_left (by omega),show Dh l.length zs x i=zs i from if_neg c];exact⟨(h.z i (by omega)).1,(h.z i (by omega)).2.grew g (by decide)⟩
 rw[h.rep,a,show 60-l.length=60-(l.length+1)+1 by omega,Mf e];simp
structure Fl(A:Nat)(w:World)(s:As):Prop where
 le:s.n<=s.c
 cap:s.c<=maxLen
 list:0<s.n->∃g,s.a=some ⟨g,0,none⟩/\A<=g/\Blk w g 47 (s.n*6) (λj=>(vj s.n s.z).getD j default)
 lines:∀i,i<s.n->cw A 59 w (s.z i).ls
theorem Fl.at{s:As}(h:Fl A w s):s.At w:=by
 refine⟨h.le,h.cap,λi hi => ?_,λi hi=>(h.lines i hi).at⟩;obtain⟨g,b,d,a⟩:=h.list (by omega);refine⟨g,0,b,λj c => ?_⟩;rw[Nat.zero_add,a.cell (j:=i*6+j) (by omega)]
 congr 1
 exact P6 hi c
theorem Fl.below{s:As}(h:Fl A w s)(b:Below w.heap.size w a):Fl A a s:=by
 refine⟨h.le,h.cap,λf => ?_,λi hi=>(h.lines i hi).below b⟩;obtain⟨g,d,e,c⟩:=h.list f;exact⟨g,d,e,c.below b⟩
theorem cw.btA{s:Hs}(h:cw A e w s)(j:Bt R w a)(n:R<A):cw A e a s:=by
 obtain⟨m,k,b,d⟩:=h;refine⟨m,k,b,λl => ?_⟩;obtain⟨g,c,f,i⟩:=d l;exact⟨g,c,f,j.blk i (by omega)⟩
theorem Fl.bt{s:As}(h:Fl A w s)(b:Bt R w a)(f:R<A):Fl A a s:=by
 refine⟨h.le,h.cap,λj => ?_,λi hi=>(h.lines i hi).btA b f⟩;obtain⟨g,d,e,c⟩:=h.list j;exact⟨g,d,e,b.blk c (by omega)⟩
def Gy(t:List UInt8)(w w':World)(s:As):Prop:=s.n=(nf t).length/\(∀i (h:i<(nf t).length),ru (s.z i) (nf t)[i])/\Fl w.heap.size w' s/\Below w.heap.size w w'
theorem Rep.done{k:Nat}{r:World}{l:List Ax}{zs:Nat->Ax}(h:Rep k t w r v l zs)(H:t.length<=4096)(A:sk t (60-l.length) k=([],k)):∃s:As,v=s.val/\Gy t w r s/\C4 t=k:=by
 have q:=h.rep;rw[A] at q;have j:nf t=l:=by unfold nf;rw[if_neg (by omega),q];simp
 have D:C4 t=k:=by unfold C4;rw[if_neg (by omega),q]
 obtain⟨a,c,x,F⟩:=vq h.o;refine⟨⟨a,l.length,c,zs⟩,x,⟨by rw[j],λi hi => ?_,?_,h.b⟩,D⟩
 .have e:(nf t)[i]=l[i]'(by rw[<-j];exact hi):=by simp only[j]
  rw[e];exact(h.z i (by rw[<-j];exact hi)).1
 have f:=h.o;rw[x] at f;refine⟨?_,?_,λB => ?_,λi hi=>(h.z i hi).2⟩
 .obtain⟨_,⟨d,m⟩|⟨g,cap,cur,d,m,n,p,_⟩⟩:=f
  .simp only[Value.slice.injEq] at d;show l.length<=c;omega
  simp only[Value.slice.injEq] at d;show l.length<=c;omega
 .obtain⟨_,⟨d,m⟩|⟨g,cap,cur,d,m,n,p,G,_⟩⟩:=f
  .simp only[Value.slice.injEq] at d;show c<=maxLen;omega
  simp only[Value.slice.injEq] at d;show c<=maxLen;omega
 have E:0<l.length:=B;have u:(Value.slice a l.length c) ≠ .slice none 0 0:=λe=>by simp only[Value.slice.injEq] at e;omega
 obtain⟨g,J,y,d,m,n,p⟩:=Blk.ofOwns f u;simp only[Value.slice.injEq] at y;exact⟨g,y.1,n,p⟩
theorem M2(t:List UInt8)(w:World):
  Calls prog 17 #[.string ⟨t.toArray⟩] w λe w'=>∃s:As,e = .returned (.tuple #[s.val,.int .i64 (C4 t:Int),.int .i64 (tt t)])/\Gy t w w' s:=by
 have tl:((⟨t.toArray⟩:ByteArray).size)=t.length:=by simp[ByteArray.size]
 by_cases d:4096<t.length
 .have q1:(4096:Int)<(t.length:Int):=by omega
  have p:Hid (tt t=2/\C4 t=0/\nf t=[]):=⟨if_pos d,if_pos d,if_pos d⟩;go_enter func17,ntmps17;go_wp2_with fail;refine Xzq (v := .tuple #[.slice none 0 0,.int .i64 0,.int .i64 2]) (by simp[results,results17,go_sem]) rfl ?_;refine⟨⟨none,0,0,λ_=>⟨0,0,0,0,0,⟨none,0,0,λ_=>⟨0,0,0,0⟩⟩⟩⟩,by rw[p.out.1,p.out.2.1];rfl,by rw[p.out.2.2];rfl,λi hi => ?_,⟨Nat.le_refl _,Qxz _,λhi=>absurd hi (Qzq _),λi hi=>absurd hi (Qzq _)⟩,Below.refl _ _⟩;rw[p.out.2.2] at hi;exact absurd hi (Qzq _)
 have q1:¬(4096:Int)<(t.length:Int):=by omega
 have HT:Hid (t.length<=4096):=by show _<=_;omega
 have p:Hid (tt t=0):=if_neg d;obtain⟨iA,af,an,ak,ap⟩:=info_parts U4;obtain⟨W0,hW,KR,KB⟩:∃W,w.alloc (.cells #[.string ⟨t.toArray⟩,.int .i64 0] 85)=W/\n9 w.heap.size W t 0/\Below w.heap.size w W:=⟨_,rfl,(Blk.mk' (cur:=#[.string ⟨t.toArray⟩,.int .i64 0]) rfl rfl).congr (λj y=>by match j,y with|0,_=>rfl|1,_=>rfl),brf.alloc nlr _⟩;have HW:Hid (w.alloc (.cells #[.string ⟨t.toArray⟩,.int .i64 0] 85)=W0):=hW;have T:Hid (Rep 0 t w W0 (.slice none 0 0) [] (λ_=>⟨0,0,0,0,0,⟨none,0,0,λ_=>⟨0,0,0,0⟩⟩⟩)/\n9 w.heap.size W0 t 0):=⟨⟨World.ownsRow_nil _ _ _ _,λi h=>absurd h (Qzq _),Qxz _,KB,rfl⟩,KR⟩;clear hW KR KB d;go_enter func17,ntmps17;go_wp2_with fail;rw[HW.out];clear HW
 go_loopw [6,7] (λav kv wk=>∃(l:List Ax) (zs:Nat->Ax) (a:Option Addr) (c k:Nat),l.length<=60/\av = .slice a l.length c/\kv = .int .i64 (k:Int)/\Hid (Rep k t w wk (.slice a l.length c) l zs/\n9 w.heap.size wk t k)) (λav _ _=>60-Rg av)
 case atStart=>exact⟨[],_,none,0,0,Qxz _,rfl,rfl,T⟩
 obtain⟨l,zs,a,c,k,hl,rfl,rfl,f⟩:=hrel;clear T;by_cases au:l.length<60;rotate_left
 .have q2:¬(l.length:Int)<60:=by omega
  have V:Hid (∃s:As,.slice a l.length c=s.val/\Gy t w wr s/\C4 t=k):=f.out.1.done HT.out (by rw[show 60-l.length=0 by omega];rfl);clear f;go_wp2_with fail;obtain⟨s,hv,G,hN⟩:=V.out;refine Xzq (v := .tuple #[.slice a l.length c,.int .i64 (k:Int),.int .i64 0]) (by simp[results,results17,go_sem]) rfl ?_;exact⟨s,by rw[hv,p.out,hN],G⟩
 have q2:(l.length:Int)<60:=by omega
 go_wp2_with fail;refine(acf w.heap.size t k wr f.out.2 f.out.1.kl HT.out).mono ?_;rintro e g ⟨⟨D,ls,rfl,Y,hz,ho,hr⟩|⟨L,rfl⟩,H⟩;rotate_left
 .have J:Below g.heap.size g (g.alloc (.cells #[.int .i64 0,.int .i64 0,.int .i64 0,.int .i64 0,.int .i64 0,.slice none 0 0] 47)):=brf.alloc nlr _;have V:Hid (∃s:As,.slice a l.length c=s.val/\Gy t w (g.alloc (.cells #[.int .i64 0,.int .i64 0,.int .i64 0,.int .i64 0,.int .i64 0,.slice none 0 0] 47)) s/\C4 t=k):=((f.out.1.bt H f.out.2).below J).done HT.out (Km L);clear f H L J;go_wp2_with fail;obtain⟨s,hv,G,hN⟩:=V.out;refine Xzq (v := .tuple #[.slice a l.length c,.int .i64 (k:Int),.int .i64 0]) (by simp[results,results17,go_sem]) rfl ?_;exact⟨s,by rw[hv,p.out,hN],G⟩
 have K:ru (Ax.mk (rdN t k) (rdN t (k+1)) (rdN t (k+2)) (rdN t (k+3)) (rdN t (k+4)) ls) (rdA t k):=⟨rfl,rfl,rfl,rfl,rfl,Y,λj y=>by
  show ls.z j=rdZ t k j;rw[S8 y];exact hz j (by rw[Y];exact y)⟩
 generalize hxe:Ax.mk (rdN t k) (rdN t (k+1)) (rdN t (k+2)) (rdN t (k+3)) (rdN t (k+4)) ls=x at *
 have P:x.ls=ls:=by rw[<-hxe]
 obtain⟨r,F,q⟩:∃W,(g.alloc (.cells #[.int .i64 x.k,.int .i64 x.a,.int .i64 x.b,.int .i64 x.c,.int .i64 x.n,.slice x.ls.a x.ls.n x.ls.c] 47)).alloc (.cells #[.int .i64 x.k,.int .i64 x.a,.int .i64 x.b,.int .i64 x.c,.int .i64 x.n,.slice x.ls.a x.ls.n x.ls.c] 47)=W/\Below g.heap.size g W:=⟨_,rfl,(brf.alloc nlr _).alloc (by simp) _⟩;have M:Hid ((g.alloc (.cells #[.int .i64 x.k,.int .i64 x.a,.int .i64 x.b,.int .i64 x.c,.int .i64 x.n,.slice x.ls.a x.ls.n x.ls.c] 47)).alloc (.cells #[.int .i64 x.k,.int .i64 x.a,.int .i64 x.b,.int .i64 x.c,.int .i64 x.n,.slice x.ls.a x.ls.n x.ls.c] 47)=r):=F;have S:Hid (∀j u,(p9 x)[j]?=some u->r.cell? ((⟨g.heap.size+1,0,none⟩:Addr).add j)=some u):=by
  have h:=ab8 (g.alloc (.cells #[.int .i64 x.k,.int .i64 x.a,.int .i64 x.b,.int .i64 x.c,.int .i64 x.n,.slice x.ls.a x.ls.n x.ls.c] 47)) x 47;rw[F] at h;intro j u y;have:=h j u y
  simpa using this
 have m:Hid (Rep k t w r (.slice a l.length c) l zs):=(f.out.1.bt H f.out.2).below q;have E:Hid (cw w.heap.size 59 r x.ls/\n9 w.heap.size r t (k+i7 t k)):=⟨by rw[P];exact(ho.mono f.out.1.b.size).below q,Blk.below hr q⟩;have B:=qa2 K D;have Q:=hid m.out.b.size;clear Y hz ho hr K hxe P D F q H f;simp only[Ax.val,Ax.cells];go_wp2_with(at_builtin;rw[M.out];refine wpList_append_own r rfl (.tmp 24) (.tmp 26) 36 rfl w.heap.size 47 iA (.agg #[.int .i64 0,.int .i64 0,.int .i64 0,.int .i64 0,.int .i64 0,.slice none 0 0]) 6 64 underlying36 af an ak ap rfl (by decide) (.slice a l.length c) l.length (vj l.length zs) rfl m.out.o ⟨g.heap.size+1,0,none⟩ 1 1 (p9 x) rfl rfl S.out (λu hu=>by simp[p9] at hu;rcases hu with rfl|rfl|rfl|rfl|rfl|rfl<;>rfl) (by unfold maxLen;omega) (by omega) Q.out ?_);intro v2 X U r2 _;obtain⟨a2,c2,rfl,-⟩:=vq U;have hg:=Ae m.out.o r2;have ar:Hid (Rep (k+i7 t k) t w X (.slice a2 (l.length+1) c2) (l++[rdA t k]) (Dh l.length zs x)):=m.out.more B.out.2 B.out.1 E.out.1 au hg U;have A:Hid (n9 w.heap.size X t (k+i7 t k)):=hg.blk E.out.2 (by decide);have y0:X.cell? ⟨w.heap.size,1,none⟩=some (.int .i64 ((k+i7 t k:Nat):Int)):=A.out.k 1;have y1:=Blk.lt A.out
 generalize hke:k+i7 t k=K2 at *
 clear U r2 hg m E B S M Q hke
 try simp only[Act.put,Qvq,Qwx,Qwz]
 go_wp2_with fail;go_roundw
 case rel=>exact⟨l++[rdA t k],Dh l.length zs x,a2,c2,K2,by simp;omega,by simp,rfl,(by rw[show(l++[rdA t k]).length=l.length+1 by simp];exact ar.out),A.out⟩
 case measure=>simp[Rg];omega
def ad8(w:World)(b:Nat)(x:Ax):Prop:=w.cell? ⟨b,0,none⟩=some (.int .i64 x.k)/\w.cell? ⟨b,1,none⟩=some (.int .i64 x.a)/\w.cell? ⟨b,2,none⟩=some (.int .i64 x.b)/\w.cell? ⟨b,3,none⟩=some (.int .i64 x.c)/\w.cell? ⟨b,4,none⟩=some (.int .i64 x.n)/\w.cell? ⟨b,5,none⟩=some (.slice x.ls.a x.ls.n x.ls.c)/\b<w.heap.size
def ac4(w:World)(b:Nat):Prop:=b<w.heap.size/\w.frozen? ⟨b,0,none⟩=false/\w.cell? ⟨b,0,none⟩=some (.slice .none 0 0)/\w.frozen? ⟨b,1,none⟩=false/\w.cell? ⟨b,1,none⟩=some (.slice .none 0 0)/\w.frozen? ⟨b,2,none⟩=false/\w.cell? ⟨b,2,none⟩=some (.slice .none 0 0)/\w.frozen? ⟨b,3,none⟩=false/\w.cell? ⟨b,3,none⟩=some (.slice .none 0 0)/\w.frozen? ⟨b,4,none⟩=false/\w.cell? ⟨b,4,none⟩=some (.slice .none 0 0)/\w.frozen? ⟨b,5,none⟩=false/\w.cell? ⟨b,5,none⟩=some (.slice .none 0 0)/\w.frozen? ⟨b,6,none⟩=false/\w.cell? ⟨b,6,none⟩=some (.slice .none 0 0)
theorem Yv(p:Pl)(s:St)(x:Ax)(w:World)(m:p.At w)(hs:s.At w)(hx:x.ls.At w):∃f,Hid ((((w.alloc (.cells #[.slice p.ab p.nb p.cb,.slice p.sa p.ns p.cs] 25)).alloc (.cells #[.slice s.on.a s.on.n s.on.c,.slice s.os.a s.os.n s.os.c,.slice s.hs.a s.hs.n s.hs.c,.slice s.ms.a s.ms.n s.ms.c,.slice s.si.a s.si.n s.si.c,.slice s.so.a s.so.n s.so.c,.slice s.sf.a s.sf.n s.sf.c] 31)).alloc (.cells #[.int .i64 x.k,.int .i64 x.a,.int .i64 x.b,.int .i64 x.c,.int .i64 x.n,.slice x.ls.a x.ls.n x.ls.c] 47)).alloc (.cells #[.slice .none 0 0,.slice .none 0 0,.slice .none 0 0,.slice .none 0 0,.slice .none 0 0,.slice .none 0 0,.slice .none 0 0] 31)=f) /\
  Hid (∀g,Below f.heap.size f g->lx g w.heap.size (w.heap.size+1) p s/\p.At g/\s.At g/\Below w.heap.size w g/\Blk g (w.heap.size+3) 31 7 (λ_ => .slice .none 0 0)/\Blk g (w.heap.size+2) 47 6 (λj=>x.cells.getD j default)/\x.ls.At g) /\
  Hid (p.At f/\s.At f/\x.ls.At f)/\Hid (w.heap.size<=f.heap.size)/\lx f w.heap.size (w.heap.size+1) p s/\ad8 f (w.heap.size+2) x/\ac4 f (w.heap.size+3):=by
 obtain⟨f,q,e,l,i,d⟩:∃W,(((w.alloc (.cells #[.slice p.ab p.nb p.cb,.slice p.sa p.ns p.cs] 25)).alloc (.cells s.cells 31)).alloc (.cells x.cells 47)).alloc (.cells #[.slice .none 0 0,.slice .none 0 0,.slice .none 0 0,.slice .none 0 0,.slice .none 0 0,.slice .none 0 0,.slice .none 0 0] 31)=W/\Below w.heap.size w W/\lx W w.heap.size (w.heap.size+1) p s/\Blk W (w.heap.size+2) 47 6 (λj=>x.cells.getD j default)/\Blk W (w.heap.size+3) 31 7 (λ_ => .slice .none 0 0):=
  ⟨_,rfl,((ix _ _ _).alloc (by simp;omega) _).alloc (by simp;omega) _,((nt w p s _ _).below (brf.alloc nlr _)).below (brf.alloc nlr _),(Blk.mk' (cur:=x.cells) (by simp) rfl).alloc _,(Blk.mk' (cur:=#[.slice .none 0 0,.slice .none 0 0,.slice .none 0 0,.slice .none 0 0,.slice .none 0 0,.slice .none 0 0,.slice .none 0 0]) (by simp) rfl).congr (λj o=>by match j,o with|0,_=>rfl|1,_=>rfl|2,_=>rfl|3,_=>rfl|4,_=>rfl|5,_=>rfl|6,_=>rfl)⟩
 exact⟨f,q,λg h=>⟨l.below h,(m.below e).below h,(hs.below e).below h,e.trans (h.mono e.size),d.below h,i.below h,(hx.below e).below h⟩,⟨m.below e,hs.below e,hx.below e⟩,e.size,l,⟨i.k 0,i.k 1,i.k 2,i.k 3,i.k 4,i.k 5,i.lt⟩,d.lt,d.frozen 0,d.k 0,d.frozen 1,d.k 1,d.frozen 2,d.k 2,d.frozen 3,d.k 3,d.frozen 4,d.k 4,d.frozen 5,d.k 5,d.frozen 6,d.k 6⟩
theorem M6(q l p:Nat)(s:St)(order line:Int)(w:World)(hs:s.os.At w)(P:q<w.heap.size)(Y:l<w.heap.size)(S:p<w.heap.size)(c1:w.cell? ⟨q,1,none⟩=some (.slice s.os.a s.os.n s.os.c))(c2:w.cell? ⟨l,0,none⟩=some (.int .i64 order))(c3:w.cell? ⟨p,0,none⟩=some (.int .i64 line)):
  Calls prog 161 #[.pointer (some ⟨q,0,none⟩),.pointer (some ⟨l,0,none⟩),.pointer (some ⟨p,0,none⟩)] w λe E=>e = .returned (.bool (y9 s order line))/\Below w.heap.size w E:=by
 have v:=hs.le;have f:=hs.cap;have u:=f;unfold maxLen at u;have K:s.os.n<=maxLen:=Qzx v f;have B:=Qqq c1;have r2:=Qqq c2;have V:=Qqq c3;clear c1 c2 c3;cases j:inB order 0 ((s.os.n:Int)-1)
 .have t:Hid (y9 s order line=true):=by show y9 s order line=true;unfold y9;rw[j];rfl
  clear hs;go_enter func161,ntmps161;go_wp2_with fail;refine Qxq (by kernel_rfl) (by kernel_rfl) ?_
  repeat(go_big_quiet_step((go_at_call 71;exact Xxz ((dm _ _ _ (by assumption)).mono (λ_ _ h=>⟨h.1,h.2▸Below.refl _ _⟩)))))
  refine Qqz ?_;intro _ i;obtain⟨⟨F,A⟩,d⟩:=i;subst d;go_wp2_with fail;go_ret;exact⟨by rw[t.out];rfl,Qxx _ _ _⟩
 obtain⟨m,rfl⟩:=Qzz (au j).1;have G:m<s.os.n:=by have:=(au j).2;omega
 obtain⟨b,o,k,Q,J,y,r⟩:=hs.ods m G;have t:Hid (y9 s (m:Int) line = !(inB line 0 (((s.os.z m).ls.n:Int)-1))):=by show y9 s (m:Int) line=_;unfold y9;rw[j];rfl
 have g:=r.cap;have x:=r.le;have L:(s.os.z m).ls.n<=maxLen:=Qzx x g;have T:=Qqq y;have M:(0:Int)<=(m:Int):=by omega
 have X:(m:Int)<(s.os.n:Int):=by omega
 rw[k] at B;unfold maxLen at g;clear J y r hs k
 generalize (s.os.z m).ls.n=D at *
 generalize (s.os.z m).ls.c=U at *
 generalize (s.os.z m).ls.a=W at *
 cases H:inB line 0 ((D:Int)-1)
 all_goals
  go_enter func161,ntmps161;go_wp2_with fail;refine Qxq (by kernel_rfl) (by kernel_rfl) ?_
  repeat(go_big_quiet_step((go_at_call 71;exact Xxz ((dm _ _ _ (by assumption)).mono (λ_ _ h=>⟨h.1,h.2▸Below.refl _ _⟩)))))
  refine Qqz ?_;intro _ i;obtain⟨⟨F,A⟩,d⟩:=i;subst d;go_wp2_with fail;go_ret;exact⟨by rw[t.out,H];simp,Qxx _ _ _⟩
theorem Oy(p:Pl)(s:St)(order line n but:Int)(w:World)(hp:p.At w)(hs:s.At w):
  Calls prog 141 #[p.val,s.val,.int .i64 order,.int .i64 line,.int .i64 n,.int .i64 but] w λe w'=>e = .returned (.int .i64 (fc p s order line n but))/\Below w.heap.size w w':=by
 obtain⟨W0,hW,aa,X0,K2,K3⟩:∃W,((((w.alloc (.cells #[.slice p.ab p.nb p.cb,.slice p.sa p.ns p.cs] 25)).alloc (.cells s.cells 31)).alloc (.cells #[.int .i64 order] 3)).alloc (.cells #[.int .i64 line] 3))=W/\Below w.heap.size w W/\lx W w.heap.size (w.heap.size+1) p s/\Blk W (w.heap.size+2) 3 1 (λ_ => .int .i64 order)/\Blk W (w.heap.size+3) 3 1 (λ_ => .int .i64 line):=
  ⟨_,rfl,((ix _ _ _).alloc (by simp;omega) _).alloc (by simp;omega) _,((nt w p s _ _).below (brf.alloc nlr _)).below (brf.alloc nlr _),((Blk.mk' (cur:=#[.int .i64 order]) (by simp) rfl).congr (λj hj=>by match j,hj with|0,_=>rfl)).alloc _,(Blk.mk' (cur:=#[.int .i64 line]) (by simp) rfl).congr (λj hj=>by match j,hj with|0,_=>rfl)⟩
 have HC:Hid (∀S,Below W0.heap.size W0 S->lx S w.heap.size (w.heap.size+1) p s/\p.At S/\s.At S/\Below w.heap.size w S/\Blk S (w.heap.size+2) 3 1 (λ_ => .int .i64 order)/\Blk S (w.heap.size+3) 3 1 (λ_ => .int .i64 line)):=λS h=>⟨X0.below h,(hp.below aa).below h,(hs.below aa).below h,aa.trans (h.mono aa.size),K2.below h,K3.below h⟩;have HW:Hid ((((w.alloc (.cells #[.slice p.ab p.nb p.cb,.slice p.sa p.ns p.cs] 25)).alloc (.cells #[.slice s.on.a s.on.n s.on.c,.slice s.os.a s.os.n s.os.c,.slice s.hs.a s.hs.n s.hs.c,.slice s.ms.a s.ms.n s.ms.c,.slice s.si.a s.si.n s.si.c,.slice s.so.a s.so.n s.so.c,.slice s.sf.a s.sf.n s.sf.c] 31)).alloc (.cells #[.int .i64 order] 3)).alloc (.cells #[.int .i64 line] 3)=W0):=hW;have leb:=hp.leb;have ac:=hp.capb;have capb:=ac;unfold maxLen at capb;have G:p.nb<=maxLen:=Qzx leb ac;clear hW X0 K2 K3 hp hs;unfold Pl.val St.val;go_enter func141,ntmps141;go_wp2_with fail;rw[HW.out];obtain⟨X,m,f,x,-,-⟩:=HC.out W0 brf;refine(lg p s W0 m f).mono ?_;rintro e w1 ⟨rfl,hB⟩;clear X m f x HW;obtain⟨⟨⟨l1,d0,d1⟩,l2,P,c1,c2,c3,c4,c5,c6⟩,m,f,x,v,t⟩:=HC.out w1 hB;have g:=hid x;clear x;by_cases h0:ag p s=0;rotate_left
 .have i:Hid (fc p s order line n but=ag p s):=It h0;clear m f v t P c1 c2 c3 c4 c5 c6;go_wp2_with fail;go_ret;exact⟨by rw[i.out];rfl,g.out⟩
 have L:=hid h0;have HF:Hid (cx p s):=(dp h0).fm;rw[h0];clear h0;have ap:Hid (Calls prog 161 #[.pointer (some ⟨w.heap.size+1,0,none⟩),.pointer (some ⟨w.heap.size+1+1,0,none⟩),.pointer (some ⟨w.heap.size+1+1+1,0,none⟩)] w1 λe w'=>e = .returned (.bool (y9 s order line))/\Below w1.heap.size w1 w'):=M6 (w.heap.size+1) (w.heap.size+2) (w.heap.size+3) s order line w1 f.os l2 v.lt t.lt c1 (v.k 0) (t.k 0);have eg:=enters_of func161 (by kernel_rfl) rfl;clear m f v t P c1 c2 c3 c4 c5 c6 d1;go_wp2_with fail;refine ap.out.mono ?_;rintro e w2 ⟨rfl,ao⟩;have bj:=hB.trans (ao.mono hB.size);clear l1 d0 l2 ao ap g hB eg;obtain⟨⟨⟨l1,d0,d1⟩,l2,P,c1,c2,c3,c4,c5,c6⟩,m,f,x,v,t⟩:=HC.out w2 bj;have g:=hid x;clear x;have U:Hid (∀a b c d,y9 s order line=a->inB n 0 200=b->(but !=-1)=c->inB but 0 ((p.nb:Int)-1)=d->rj p s order line n but=(a || !b||(c && !d))):=λa b c d e1 e2 e3 e4=>by unfold rj;rw[e1,e2,e3,e4]
 cases D:y9 s order line;rotate_left
 .have i:Hid (fc p s order line n but=3):=Av L.out (by rw[U.out _ _ _ _ D rfl rfl rfl];rfl);clear m f v t P c1 c2 c3 c4 c5 c6 D;go_wp2_with fail;go_ret;exact⟨by rw[i.out];rfl,g.out⟩
 have aq:=D;cases m2:inB n 0 200
 .have i:Hid (fc p s order line n but=3):=Av L.out (by rw[U.out _ _ _ _ D m2 rfl rfl];rfl);clear m f v t P c1 c2 c3 c4 c5 c6 D aq;go_wp2_with(go_at_call 63;refine ah (co _ _ _ _) ?_);go_ret;exact⟨by rw[i.out];rfl,g.out⟩
 cases m3:(but !=-1)
 .have K:Hid (rj p s order line n but=false):=by show rj p s order line n but=false;rw[U.out _ _ _ _ D m2 m3 rfl];rfl
  have cf:=m3;obtain⟨a,b,-,-⟩:=Iu K.out;obtain⟨o,rfl⟩:=Qzz a.1;obtain⟨l,rfl⟩:=Qzz b.1;have ho:o<s.os.n:=a.2;have hl:l<(s.os.z o).ls.n:=b.2;obtain⟨bo,oo,T,bi,z0,z1,u⟩:=f.os.ods o ho;obtain⟨bl,ol,Q,bc,y0,y1,y2,y3⟩:=u.hds l hl;have u0:=v.k 0;have u1:=t.k 0;have u2:=v.lt;have u3:=t.lt;have q0:(0:Int)<=(o:Int):=by omega
  have q1:(o:Int)<(s.os.n:Int):=by omega
  have q2:(0:Int)<=(l:Int):=by omega
  have q3:(l:Int)<((s.os.z o).ls.n:Int):=by omega
  have v1:=f.os.le;have v2:=f.os.cap;have v3:=u.le;have v4:=u.cap;unfold maxLen at v2 v4;have y:Hid (¬(s.os.z o).k=1->fc p s o l n but=6):=λh=>Fq L.out K.out h;have B:Hid ((s.os.z o).k=1->((s.os.z o).ls.z l).n<n->fc p s o l n but=3):=λh V=>Fp L.out K.out h V;have F:Hid ((s.os.z o).k=1->¬((s.os.z o).ls.z l).n<n->fc p s o l n but=0):=λh V=>Ir L.out K.out h V;rw[T] at c1;rw[Q] at z1;clear m f v t P c2 c3 c4 c5 c6 D T Q u y0 y1 y2 a b U
  generalize (s.os.z o).k=Y at *
  generalize ((s.os.z o).ls.z l).n=E at *
  generalize (s.os.z o).ls.n=LN at *
  generalize (s.os.z o).ls.c=LC at *
  by_cases q:Y=1;rotate_left
  .have i:Hid (fc p s o l n but=6):=y.out q;have g2:(Y !=1)=true:=by simpa using q
   clear y B F q;go_wp2_with(first|(go_at_call 63;refine ah (co _ _ _ _) ?_)|(go_at_call 71;refine ah (dm _ _ _ G) ?_));go_ret;exact⟨by rw[i.out];rfl,g.out⟩
  have g2:(Y !=1)=false:=by rw[q];rfl
  have t1:=Qqq c1;have t2:=Qqq u0;have t3:=Qqq u1;have t4:=Qqq z1;have t5:=Qqq y3;have H:Hid (E<n->fc p s o l n but=3):=B.out q;have J:Hid (¬E<n->fc p s o l n but=0):=F.out q;clear y B F q;cases M:decide (E<n)
  .have i:Hid (fc p s o l n but=0):=J.out (of_decide_eq_false M);have g4:¬E<n:=of_decide_eq_false M;clear H J;go_wp2_with(first|(go_at_call 63;refine ah (co _ _ _ _) ?_)|(go_at_call 71;refine ah (dm _ _ _ G) ?_));refine Qxq (by kernel_rfl) (by kernel_rfl) ?_
   repeat(go_big_quiet_step(fail))
   refine Qqz ?_;intro _ A;obtain⟨⟨dq,ae⟩,r⟩:=A;subst r;go_wp2_with fail;go_ret;exact⟨by rw[i.out];rfl,g.out.trans ((Qxx _ _ _).mono g.out.size)⟩
  have i:Hid (fc p s o l n but=3):=H.out (of_decide_eq_true M);have g4:E<n:=of_decide_eq_true M;clear H J;go_wp2_with(first|(go_at_call 63;refine ah (co _ _ _ _) ?_)|(go_at_call 71;refine ah (dm _ _ _ G) ?_));refine Qxq (by kernel_rfl) (by kernel_rfl) ?_
  repeat(go_big_quiet_step(fail))
  refine Qqz ?_;intro _ A;obtain⟨⟨dq,ae⟩,r⟩:=A;subst r;go_wp2_with fail;go_ret;exact⟨by rw[i.out];rfl,g.out.trans ((Qxx _ _ _).mono g.out.size)⟩
 cases m4:inB but 0 ((p.nb:Int)-1)
 .have i:Hid (fc p s order line n but=3):=Av L.out (by rw[U.out _ _ _ _ D m2 m3 m4];rfl);clear m f v t P c1 c2 c3 c4 c5 c6 D aq;go_wp2_with(first|(go_at_call 63;refine ah (co _ _ _ _) ?_)|(go_at_call 71;refine ah (dm _ _ _ G) ?_));go_ret;exact⟨by rw[i.out];rfl,g.out⟩
 have K:Hid (rj p s order line n but=false):=by show rj p s order line n but=false;rw[U.out _ _ _ _ D m2 m3 m4];rfl
 obtain⟨a,b,-,-⟩:=Iu K.out;obtain⟨o,rfl⟩:=Qzz a.1;obtain⟨l,rfl⟩:=Qzz b.1;have ho:o<s.os.n:=a.2;have hl:l<(s.os.z o).ls.n:=b.2;obtain⟨bo,oo,T,bi,z0,z1,u⟩:=f.os.ods o ho;obtain⟨bl,ol,Q,bc,y0,y1,y2,y3⟩:=u.hds l hl;have u0:=v.k 0;have u1:=t.k 0;have u2:=v.lt;have u3:=t.lt;have q0:(0:Int)<=(o:Int):=by omega
 have q1:(o:Int)<(s.os.n:Int):=by omega
 have q2:(0:Int)<=(l:Int):=by omega
 have q3:(l:Int)<((s.os.z o).ls.n:Int):=by omega
 have v1:=f.os.le;have v2:=f.os.cap;have v3:=u.le;have v4:=u.cap;unfold maxLen at v2 v4;have y:Hid (¬(s.os.z o).k=1->fc p s o l n but=6):=λh=>Fq L.out K.out h;have B:Hid ((s.os.z o).k=1->((s.os.z o).ls.z l).n<n->fc p s o l n but=3):=λh V=>Fp L.out K.out h V;have F:Hid ((s.os.z o).k=1->¬((s.os.z o).ls.z l).n<n->fc p s o l n but=0):=λh V=>Ir L.out K.out h V;rw[T] at c1;rw[Q] at z1;clear m f v t P c2 c3 c4 c5 c6 D T Q u y0 y1 y2 a b U
 generalize (s.os.z o).k=Y at *
 generalize ((s.os.z o).ls.z l).n=E at *
 generalize (s.os.z o).ls.n=LN at *
 generalize (s.os.z o).ls.c=LC at *
 by_cases q:Y=1;rotate_left
 .have i:Hid (fc p s o l n but=6):=y.out q;have g2:(Y !=1)=true:=by simpa using q
  clear y B F q;go_wp2_with(first|(go_at_call 63;refine ah (co _ _ _ _) ?_)|(go_at_call 71;refine ah (dm _ _ _ G) ?_));go_ret;exact⟨by rw[i.out];rfl,g.out⟩
 have g2:(Y !=1)=false:=by rw[q];rfl
 have t1:=Qqq c1;have t2:=Qqq u0;have t3:=Qqq u1;have t4:=Qqq z1;have t5:=Qqq y3;have H:Hid (E<n->fc p s o l n but=3):=B.out q;have J:Hid (¬E<n->fc p s o l n but=0):=F.out q;clear y B F q;cases M:decide (E<n)
 .have i:Hid (fc p s o l n but=0):=J.out (of_decide_eq_false M);have g4:¬E<n:=of_decide_eq_false M;clear H J;go_wp2_with(first|(go_at_call 63;refine ah (co _ _ _ _) ?_)|(go_at_call 71;refine ah (dm _ _ _ G) ?_));refine Qxq (by kernel_rfl) (by kernel_rfl) ?_
  repeat(go_big_quiet_step(fail))
  refine Qqz ?_;intro _ A;obtain⟨⟨dq,ae⟩,r⟩:=A;subst r;go_wp2_with fail;go_ret;exact⟨by rw[i.out];rfl,g.out.trans ((Qxx _ _ _).mono g.out.size)⟩
 have i:Hid (fc p s o l n but=3):=H.out (of_decide_eq_true M);have g4:E<n:=of_decide_eq_true M;clear H J;go_wp2_with(first|(go_at_call 63;refine ah (co _ _ _ _) ?_)|(go_at_call 71;refine ah (dm _ _ _ G) ?_));refine Qxq (by kernel_rfl) (by kernel_rfl) ?_
 repeat(go_big_quiet_step(fail))
 refine Qqz ?_;intro _ A;obtain⟨⟨dq,ae⟩,r⟩:=A;subst r;go_wp2_with fail;go_ret;exact⟨by rw[i.out];rfl,g.out.trans ((Qxx _ _ _).mono g.out.size)⟩
end Go.Proofs.YtbcacebifpagpagGreat
