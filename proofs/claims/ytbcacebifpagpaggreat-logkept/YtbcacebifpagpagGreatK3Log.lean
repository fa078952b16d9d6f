/- Texts that were built one behind the other, joined; what is not reached is left out. -/
import Derived.Test.YtbcacebifpagpagGreatK2Log
import Derived.Laws.ResultCell
set_option maxHeartbeats 8000000
set_option maxRecDepth 100000
namespace Go.Proofs.YtbcacebifpagpagGreat
variable{n b A g o l c i q j R L M:Nat}{w a d:World}{s x y u:St}{r W J D:Int}{e H:TypeId}{p:Pl}{z O:Nat->Hd}{f f':Nat->Value}{Q:Exit->Act->World->Prop}{v c1 c3 c2:Value}{xs:List Value}{U V:Hs}{X Y:Int->Int->Int}{P:Program}{h Z:Hd}{t:List UInt8}{E:Hd->Bool}{z' zs:Nat->Int}{S:World->Prop}{a1:Act}{K:Act->World->Prop}
open _root_.Go.Proofs.Tryz
open Go.RowKit Go.Shelf
set_option linter.unusedVariables false
def te(L A:Nat)(w:World)(o:Bool)(xs:List Value):Prop:=∃a c,Blk w A 79 2 (λj=>(#[.slice a xs.length c,.bool o]:Array Value).getD j default)/\w.ownsRow L 5 1 (.slice a xs.length c) xs.length xs
def nu(z:Int):Value := .int .u8 (z%256)
theorem aa6:(prog.info? 5).map (λi=>(i.zero,i.size,i.bytes))=some (some (.int .u8 0),1,1):=by kernel_rfl
theorem za{t:TypeId}{size:Nat}(h:w.ownsRow A e size v n xs){m:Nat}(d:Blk w q t m f)(c:e≠t)(j:Nat)(u:Value):(w.setCell ⟨q,j,none⟩ u).ownsRow A e size v n xs:=by
 refine⟨h.1,h.2.imp_right λ⟨g,cap,cur,h1,h2,h3,h4⟩=>⟨g,cap,cur,h1,h2,?_,h4⟩⟩;rw[Below.heap_setCell w ⟨q,j,none⟩ u g (λi=>by
  obtain⟨c2,a,_⟩:=d;have b:g=q:=i;subst b;rw[a] at h3;cases h3;exact c rfl)]
 exact h3
theorem vq{size:Nat}(h:w.ownsRow A e size v n xs):∃a c,v = .slice a n c/\n<=maxLen:=by
 obtain⟨d,⟨rfl,rfl⟩|⟨g,cap,cur,rfl,b,j,f,i,_⟩⟩:=h
 .exact⟨none,0,rfl,Qxz _⟩
 exact⟨_,_,rfl,by omega⟩
theorem qn.bel(h:qn A e w a)(b:L<=A)(hs:L<=w.heap.size):Below L w a:=h.below brf b hs
theorem Ae{size:Nat}{b:World}(h:w.ownsRow A e size v n xs)(d:w.grownBy b v.ownBlock):qn A e w b:=by
 refine⟨_,d,λk a => ?_⟩;obtain⟨_,⟨rfl,_⟩|⟨g,cap,cur,rfl,c,f,_⟩⟩:=h
 .cases a
 simp only[Value.ownBlock,Qkx] at a;subst a;exact⟨c,cur,f⟩
theorem te.mk'{o:Bool}{ys:List Value}(d:Blk w A 79 2 (λj=>(#[v,.bool o]:Array Value).getD j default))(b:w.ownsRow L 5 1 v ys.length ys):te L A w o ys:=by
 obtain⟨a,c,rfl,_⟩:=vq b;exact⟨a,c,d,b⟩
theorem te.store{b:Bool}{ys:List Value}{u:Value}(a:Blk w A 79 2 (λj=>(#[u,.bool b]:Array Value).getD j default))(d:w.ownsRow L 5 1 v ys.length ys):te L A (w.setCell ⟨A,0,none⟩ v) b ys :=
 te.mk' ((a.set 0 v).congr (λj c=>by match j,c with|0,_=>rfl|1,_=>rfl)) (za d a (by decide) 0 v)
theorem Va(L A:Nat)(o:Bool)(xs:List Value)(g:Nat)(zs:List Int)(w:World)(hL:L<=A)(hw:te L A w o xs)(hz:Blk w g 3 zs.length (λj => .int .i64 (zs.getD j 0)))(hm:xs.length+zs.length<=70368744177664):
  Calls prog 31 #[.pointer (some ⟨A,0,none⟩),.slice (some ⟨g,0,none⟩) zs.length zs.length] w λe w'=>e = .returned (.tuple #[])/\te L A w' (o||zs.any o7) (xs++zs.map nu)/\Below L w w':=by
 have HM:=hid hm;have r:=hid hL;have an:Hid (te L A w o xs):=hw;have ag:=hid hz;obtain⟨iB,ah,aj,af,am⟩:=info_parts aa6;have zl:zs.length<=70368744177664:=by omega
 clear hm hL hw hz;go_enter func31,ntmps31;go_wp2_with fail
 go_loopw [8] (λkv wk=>∃k:Nat,k<=zs.length/\kv = .int .i64 k/\Hid (te L A wk (o||(zs.take k).any o7) (xs++(zs.take k).map nu))/\Hid (Blk wk g 3 zs.length (λj => .int .i64 (zs.getD j 0)))/\Hid (Below L w wk)) (λkv _=>zs.length-(intOf kv).toNat)
 case atStart=>exact⟨0,Qxz _,rfl,(by show te L A w (o||(zs.take 0).any o7) (xs++(zs.take 0).map nu);simpa using an.out),ag,Below.refl _ _⟩
 obtain⟨k,hk,rfl,Q,J,HB⟩:=hrel;clear an ag;by_cases ak:k<zs.length;rotate_left
 .have q1:(zs.length:Int)<=(k:Int):=by omega
  have a1:k=zs.length:=by omega
  subst a1;have ay:Hid (te L A wr (o||zs.any o7) (xs++zs.map nu)):=by
   have h:=Q.out;rw[List.take_length] at h;exact h
  clear Q J;go_wp2_with fail
  go_end0
  exact⟨rfl,ay,HB⟩
 have q0:(0:Int)<=(k:Int):=by omega
 have q1:(k:Int)<(zs.length:Int):=by omega
 obtain⟨a,c,i,hO⟩:=Q.out;obtain⟨Z,ad⟩:∃Z,zs.getD k 0=Z:=⟨_,rfl⟩;have z0:wr.cell? ⟨g,k,none⟩=some (.int .i64 Z):=by rw[<-ad];exact J.out.cell ak
 have z1:=J.out.lt;have HT:Hid (zs.take (k+1)=zs.take k++[Z]):=by
  show _=_;rw[List.take_add_one,<-ad];simp[List.getD,List.getElem?_eq_getElem ak]
 generalize hys:xs++(zs.take k).map nu=ys at *
 have ai:ys.length=xs.length+k:=by rw[<-hys];simp;omega
 generalize hoo:(o||(zs.take k).any o7)=oo at *
 have HN:Hid ((o||(zs.take (k+1)).any o7)=(oo||o7 Z)/\xs++(zs.take (k+1)).map nu=ys++[nu Z]):=by
  refine⟨?_,?_⟩
  .rw[HT.out,List.any_append,<-hoo];simp[Bool.or_assoc]
  rw[HT.out,List.map_append,<-hys];simp
 have c0:wr.cell? ⟨A,0,none⟩=some (.slice a ys.length c):=i.k 0;have c1:wr.cell? ⟨A,1,none⟩=some (.bool oo):=i.k 1;have f0:=i.frozen 0;have f1:=i.frozen 1;have al:=i.lt;cases oo;rotate_left
 .obtain⟨s,y,F,K,Y,U,S⟩:∃W,wr.setCell ⟨A,1,none⟩ (.bool (true))=W/\W.heap.size=wr.heap.size/\Blk W A 79 2 (λj=>(#[.slice a ys.length c,.bool (true)]:Array Value).getD j default)/\W.ownsRow L 5 1 (.slice a ys.length c) ys.length ys/\Blk W g 3 zs.length (λj => .int .i64 (zs.getD j 0))/\Below L w W :=
   ⟨_,rfl,by simp[World.setCell],(i.set 1 _).congr (λj m=>by match j,m with|0,_=>rfl|1,_=>rfl),za hO i (by decide) 1 _,J.out.other (a:=⟨A,1,none⟩) (Blk.ne2 J.out i (by decide)) _,HB.out.setCell (p:=⟨A,1,none⟩) r.out _⟩
  obtain⟨l,n,f⟩:∃W,s.alloc (.cells #[.int .u8 (Z%256)] 5)=W/\Below s.heap.size s W:=⟨_,rfl,brf.alloc nlr _⟩;have E:Hid (L<=s.heap.size):=Qzx r.out (Nat.le_of_lt K.lt);have D:Hid (∀j u,([nu Z]:List Value)[j]?=some u->l.cell? ((⟨wr.heap.size,0,none⟩:Addr).add j)=some u):=by
   intro j u m;have hl:j<1:=(List.getElem?_eq_some_iff.1 m).1;have h0:j=0:=by omega
   subst h0;rw[<-n,<-F];simp[Addr.add,nu] at m ⊢;exact m
  have q:Hid (l.ownsRow L 5 1 (.slice a ys.length c) ys.length ys):=j6 Y f;have b:=qa3 (K.below f) (U.below f) (S.trans (f.mono E.out));have B:Hid (L<=l.heap.size):=Qzx E.out f.size;have z:Hid ((wr.setCell ⟨A,1,none⟩ (.bool (true))).alloc (.cells #[.int .u8 (Z%256)] 5)=l):=by rw[y];exact n
  have x:Hid (ys.length+1<=70368744177664):=by have:=HM.out;show _<=_;omega
  clear y n K Y U S f i hO hys hoo ai F;go_wp2_with(at_builtin;rw[z.out];refine wpList_append_own l rfl (.tmp 28) (.tmp 31) 77 rfl L 5 iB (.int .u8 0) 1 1 underlying77 ah aj af am rfl (by decide) (.slice a ys.length c) ys.length ys rfl q.out ⟨wr.heap.size,0,none⟩ 1 1 [nu Z] rfl rfl D.out (λu P=>by simp[nu] at P;subst P;rfl) (by have:=x.out;unfold maxLen;omega) (by have:=x.out;omega) B.out ?_);intro v2 t G V _;obtain⟨M,c2,rfl,-⟩:=vq G;have v:=Ae q.out V;have d:=v.blk b.out.1 (by decide);have H:=v.blk b.out.2.1 (by decide);have T:=v.below b.out.2.2 nlr B.out;have HF:Hid (te L A (t.setCell ⟨A,0,none⟩ (.slice M (ys.length+1) c2)) (true) (ys++[nu Z])):=te.store d (by rw[show(ys++[nu Z]).length=ys.length+1 by simp];exact G);have X:Hid (Blk (t.setCell ⟨A,0,none⟩ (.slice M (ys.length+1) c2)) g 3 zs.length (λj => .int .i64 (zs.getD j 0))):=H.other (a:=⟨A,0,none⟩) (Blk.ne2 H d (by decide)) _;have aa:Hid (Below L w (t.setCell ⟨A,0,none⟩ (.slice M (ys.length+1) c2))):=T.setCell (p:=⟨A,0,none⟩) r.out _;have x0:t.cell? ⟨A,0,none⟩=some (.slice a ys.length c):=d.k 0;have x1:=d.frozen 0;have x2:=d.lt;clear G V v d H T b q D z c0 c1 f0 f1 al z0 z1
  try simp only[Act.put,Qvq,Qwx,Qwz]
  go_wp2_with fail;go_roundw
  case rel=>exact⟨k+1,by omega,by go_num,(by rw[HN.out.1,HN.out.2];exact HF),X,aa⟩
  case measure=>simp[intOf];omega
 go_wp2_with fail;refine(co Z 0 255 wr).mono ?_;rintro e w1 ⟨rfl,ae⟩;rw[ae];clear ae;obtain⟨s,y,F,K,Y,U,S⟩:∃W,wr.setCell ⟨A,1,none⟩ (.bool (!inB Z 0 255))=W/\W.heap.size=wr.heap.size/\Blk W A 79 2 (λj=>(#[.slice a ys.length c,.bool (!inB Z 0 255)]:Array Value).getD j default)/\W.ownsRow L 5 1 (.slice a ys.length c) ys.length ys/\Blk W g 3 zs.length (λj => .int .i64 (zs.getD j 0))/\Below L w W :=
  ⟨_,rfl,by simp[World.setCell],(i.set 1 _).congr (λj m=>by match j,m with|0,_=>rfl|1,_=>rfl),za hO i (by decide) 1 _,J.out.other (a:=⟨A,1,none⟩) (Blk.ne2 J.out i (by decide)) _,HB.out.setCell (p:=⟨A,1,none⟩) r.out _⟩
 obtain⟨l,n,f⟩:∃W,s.alloc (.cells #[.int .u8 (Z%256)] 5)=W/\Below s.heap.size s W:=⟨_,rfl,brf.alloc nlr _⟩;have E:Hid (L<=s.heap.size):=Qzx r.out (Nat.le_of_lt K.lt);have D:Hid (∀j u,([nu Z]:List Value)[j]?=some u->l.cell? ((⟨wr.heap.size,0,none⟩:Addr).add j)=some u):=by
  intro j u m;have hl:j<1:=(List.getElem?_eq_some_iff.1 m).1;have h0:j=0:=by omega
  subst h0;rw[<-n,<-F];simp[Addr.add,nu] at m ⊢;exact m
 have q:Hid (l.ownsRow L 5 1 (.slice a ys.length c) ys.length ys):=j6 Y f;have b:=qa3 (K.below f) (U.below f) (S.trans (f.mono E.out));have B:Hid (L<=l.heap.size):=Qzx E.out f.size;have z:Hid ((wr.setCell ⟨A,1,none⟩ (.bool (!inB Z 0 255))).alloc (.cells #[.int .u8 (Z%256)] 5)=l):=by rw[y];exact n
 have x:Hid (ys.length+1<=70368744177664):=by have:=HM.out;show _<=_;omega
 clear y n K Y U S f i hO hys hoo ai F;go_wp2_with(at_builtin;rw[z.out];refine wpList_append_own l rfl (.tmp 28) (.tmp 31) 77 rfl L 5 iB (.int .u8 0) 1 1 underlying77 ah aj af am rfl (by decide) (.slice a ys.length c) ys.length ys rfl q.out ⟨wr.heap.size,0,none⟩ 1 1 [nu Z] rfl rfl D.out (λu P=>by simp[nu] at P;subst P;rfl) (by have:=x.out;unfold maxLen;omega) (by have:=x.out;omega) B.out ?_);intro v2 t G V _;obtain⟨M,c2,rfl,-⟩:=vq G;have v:=Ae q.out V;have d:=v.blk b.out.1 (by decide);have H:=v.blk b.out.2.1 (by decide);have T:=v.below b.out.2.2 nlr B.out;have HF:Hid (te L A (t.setCell ⟨A,0,none⟩ (.slice M (ys.length+1) c2)) (!inB Z 0 255) (ys++[nu Z])):=te.store d (by rw[show(ys++[nu Z]).length=ys.length+1 by simp];exact G);have X:Hid (Blk (t.setCell ⟨A,0,none⟩ (.slice M (ys.length+1) c2)) g 3 zs.length (λj => .int .i64 (zs.getD j 0))):=H.other (a:=⟨A,0,none⟩) (Blk.ne2 H d (by decide)) _;have aa:Hid (Below L w (t.setCell ⟨A,0,none⟩ (.slice M (ys.length+1) c2))):=T.setCell (p:=⟨A,0,none⟩) r.out _;have x0:t.cell? ⟨A,0,none⟩=some (.slice a ys.length c):=d.k 0;have x1:=d.frozen 0;have x2:=d.lt;clear G V v d H T b q D z c0 c1 f0 f1 al z0 z1
 try simp only[Act.put,Qvq,Qwx,Qwz]
 go_wp2_with fail;go_roundw
 case rel=>exact⟨k+1,by omega,by go_num,(by rw[HN.out.1,HN.out.2];exact HF),X,aa⟩
 case measure=>simp[intOf];omega
theorem N6{z:Nat->Hd}{h:Hd}(f:ie h=true):∀n,ax n (db z)=false->∃i,Rp n z h i
 | 0,_=>⟨0,Nat.le_refl _,λq c=>absurd c (Qzq _),λq _ c=>absurd c (Qzq _)⟩
 | n+1,hr=>by
  obtain⟨i,b⟩:=N6 f n (Hz hr);have j:=b.le;by_cases hi:i=n
  .by_cases hc:mu (z n) h<0
   .exact⟨n+1,Nat.le_refl _,λq c=>by
     by_cases d:q=n
     .subst d;exact hc
     exact b.lo q (by omega),λq e g=>by omega⟩
   refine⟨n,by omega,λq c=>b.lo q (by omega),λq e g => ?_⟩;have:q=n:=by omega
   subst this;omega
  refine⟨i,by omega,b.lo,λq e g => ?_⟩;by_cases d:q=n
  .subst d;have a:=b.hi i nlr (by omega);have l:=(Bn (cd hr i (by omega)) f).1;have m:=(Bn (cd hr q (by omega)) f).1;have k:=nk hr i q (by omega) (by omega);omega
  exact b.hi q e (by omega)
theorem Pg(e:ax n (db z)=false)(d:ie h=true):
  jl n z h<=n/\(∀j,j<jl n z h->ba (z j)<ba h)/\(∀j,jl n z h<=j->j<n->ba h<=ba (z j)):=by
 obtain⟨i,a⟩:=N6 d n e;rw[Ps a];have f:=a.le;refine⟨a.le,λj c => ?_,λj c b => ?_⟩
 .have:=a.lo j c;have:=(Bn (cd e j (by omega)) d).1;omega
 have:=a.hi j c b;have:=(Bn (cd e j b) d).1;omega
theorem Jl{x y:Hd}(hx:ie x=true)(d:ie y=true)(h:ba x=ba y):bp x y.o y.l y.b=true:=by
 have a:=cz hx;have b:=cz d;unfold ba at h;have c:x.o=y.o:=by omega
 have f:x.l=y.l:=by omega
 have e:x.b=y.b:=by omega
 simp[bp,c,f,e]
theorem Hy(b:∀i,i<n->ie (z i)=true)(hs:∀i,i+1<n->ba (z i)<ba (z (i+1))):ax n (db z)=false:=by
 rw[<-R1];refine cu λj c => ?_;unfold zk;rw[b j c];by_cases a:0<j
 .have:=hs (j-1) (by omega);rw[show j-1+1=j by omega] at this;simp only[Bool.not_true,Bool.false_or,Bool.and_eq_false_imp,decide_eq_true_eq,decide_eq_false_iff_not];intro _;omega
 simp[a]
theorem o6{k:Nat}{o l b:Int}(e:ax n (db z)=false)(c:k<n)(a:bp (z k) o l b=true):keptV n z o l b=(z k).n/\jp n z o l b=k:=by
 have lo:∀j,j<k->bp (z j) o l b=false:=λj d=>by
  cases f:bp (z j) o l b
  .rfl
  have:=Hp f a;have:=nk e j k d c;omega
 exact⟨m9 c lo a,Hb c lo a⟩
theorem U5{o l b:Int}(e:ax n (db z)=false)(c:keptV n z o l b=0):∀j,j<n->bp (z j) o l b=false:=by
 rcases sx n z o l b with h|⟨k,a,f,d⟩
 .exact h
 rw[m9 a f d] at c;have:=(cz (cd e k a)).2.2.2;omega
theorem Dx(a:j<i):mn z i h j=z j:=by unfold mn;rw[if_pos a]
theorem Dv:mn z i h i=h:=by unfold mn;rw[if_neg (by omega),if_pos rfl]
theorem Dw(a:i<j):mn z i h j=z (j-1):=by unfold mn;rw[if_neg (by omega),if_neg (by omega)]
theorem D0:sp z i h i=h:=if_pos rfl
theorem Cf(a:¬j=i):sp z i h j=z j:=if_neg a
theorem Wq{x y:Hd}{o l b:Int}(c:bp x y.o y.l y.b=true):bp x o l b=bp y o l b:=by
 have a:=fk c;unfold bp;rw[a.1,a.2.1,a.2.2]
theorem acg(d:ax n (db z)=false)(t:ie h=true)(w:keptV n z h.o h.l h.b=0):
  ax (n+1) (db (mn z (jl n z h) h))=false/\(∀o l b,keptV (n+1) (mn z (jl n z h) h) o l b=keptV n z o l b+if bp h o l b then h.n else 0) /\
   jp (n+1) (mn z (jl n z h) h) h.o h.l h.b=jl n z h:=by
 obtain⟨D,y,x⟩:=Pg d t;have no:=U5 d w
 generalize jl n z h=p at D y x ⊢
 have hs:∀j,p<=j->j<n->ba h<ba (z j):=λj v f=>by
  have a:=x j v f;have b:¬ba (z j)=ba h:=λe=>by
   have:=Jl (cd d j f) t e;rw[no j f] at this;cases this
  omega
 have g:ax (n+1) (db (mn z p h))=false:=by
  refine Hy (λi hi => ?_) (λi hi => ?_)
  .rcases Nat.lt_trichotomy i p with c|c|c
   .rw[Dx c];exact cd d i (by omega)
   .subst c;rw[Dv];exact t
   rw[Dw c];exact cd d (i-1) (by omega)
  rcases Nat.lt_trichotomy i p with c|c|c
  .rw[Dx c];by_cases A:i+1=p
   .subst A;rw[Dv];exact y i (by omega)
   rw[Dx (by omega)];exact Be d i (by omega)
  .subst c;rw[Dv,Dw (by omega)];exact hs _ (by omega) (by omega)
  rw[Dw c,Dw (by omega)];have:=Be d (i-1) (by omega);rw[show i-1+1=i+1-1 by omega] at this;exact this
 have q:=o6 (o:=h.o) (l:=h.l) (b:=h.b) g (show p<n+1 by omega) (by rw[Dv];simp[bp]);refine⟨g,λo l b => ?_,q.2⟩;cases u:bp h o l b;rotate_left
 .have a:=fk u;rw[<-a.1,<-a.2.1,<-a.2.2,w,q.1,Dv];simp
 simp only[Bool.false_eq_true,if_false,Int.add_zero];rcases sx n z o l b with s|⟨k,E,B,r⟩
 .rw[kw s];refine kw λj v => ?_;rcases Nat.lt_trichotomy j p with c|c|c
  .rw[Dx c];exact s j (by omega)
  .subst c;rw[Dv];exact u
  rw[Dw c];exact s (j-1) (by omega)
 rw[m9 E B r];by_cases m:k<p
 .have:=(o6 (o:=o) (l:=l) (b:=b) g (show k<n+1 by omega) (by rw[Dx m];exact r)).1;rw[this,Dx m]
 have e:mn z p h (k+1)=z k:=by rw[Dw (by omega),Nat.add_sub_cancel]
 have:=(o6 (o:=o) (l:=l) (b:=b) g (show k+1<n+1 by omega) (by rw[e];exact r)).1;rw[this,e]
theorem ach(s:ax n (db z)=false)(J:ie h=true)(G:¬keptV n z h.o h.l h.b=0)(U:keptV n z h.o h.l h.b+h.n<=200):
  ax n (db (sp z (jl n z h) ⟨h.o,h.l,h.b,keptV n z h.o h.l h.b+h.n⟩))=false/\(∀o l b,keptV n (sp z (jl n z h) ⟨h.o,h.l,h.b,keptV n z h.o h.l h.b+h.n⟩) o l b=keptV n z o l b+if bp h o l b then h.n else 0) /\
   jp n (sp z (jl n z h) ⟨h.o,h.l,h.b,keptV n z h.o h.l h.b+h.n⟩) h.o h.l h.b=jl n z h/\jl n z h<n/\bp (z (jl n z h)) h.o h.l h.b=true/\jp n z h.o h.l h.b=jl n z h:=by
 obtain⟨S,P,M⟩:=Pg s J;obtain⟨m,q,B,y,L⟩:=tn s G;have f:ba (z (jp n z h.o h.l h.b))=ba h:=Ff (n:=h.n) q;have D:jp n z h.o h.l h.b=jl n z h:=by
  rcases Nat.lt_trichotomy (jp n z h.o h.l h.b) (jl n z h) with c|c|c
  .have:=P _ c;omega
  .exact c
  have:=y _ c;have:=M _ nlr (by omega);omega
 rw[D] at m q B y L f ⊢
 generalize jl n z h=p at S P M m q B y L f D ⊢
 generalize hK:keptV n z h.o h.l h.b=K at G U B ⊢
 have V:=cz (cd s p m);have W:=cz J;have u:ba ⟨h.o,h.l,h.b,K+h.n⟩=ba (z p):=by rw[f];rfl
 have x:ax n (db (sp z p ⟨h.o,h.l,h.b,K+h.n⟩))=false:=by
  refine Hy (λi hi => ?_) (λi hi => ?_)
  .by_cases d:i=p
   .subst d;rw[D0];simp only[ie,Xxx];exact⟨⟨⟨bw (by omega),bw (by omega)⟩,bw (by omega)⟩,bw (by show 1<=K+h.n/\K+h.n<=200;omega)⟩
   rw[Cf d];exact cd s i hi
  have r:=Be s i hi;by_cases d:i=p
  .subst d;rw[D0,Cf (by omega),u];exact r
  rw[Cf d];by_cases g:i+1=p
  .rw[g,D0,u,<-g];exact r
  rw[Cf g];exact r
 have w:=o6 (o:=h.o) (l:=h.l) (b:=h.b) x m (by rw[D0];simp[bp]);refine⟨x,λo l b => ?_,w.2,m,q,rfl⟩;cases A:bp h o l b
 .simp only[Bool.false_eq_true,if_false,Int.add_zero];have F:bp (z p) o l b=false:=by rw[Wq q];exact A
  rcases sx n z o l b with E|⟨k,H,Q,t⟩
  .rw[kw E];refine kw λj T => ?_;by_cases d:j=p
   .subst d;rw[D0];exact A
   rw[Cf d];exact E j T
  rw[m9 H Q t];have v:¬k=p:=λe=>by subst e;rw[F] at t;cases t
  have:=(o6 (o:=o) (l:=l) (b:=b) x H (by rw[Cf v];exact t)).1;rw[this,Cf v]
 have a:=fk A;rw[<-a.1,<-a.2.1,<-a.2.2,hK,w.1,D0];simp
theorem Bu{m:Nat}{y:Nat->Hd}(h:ax n (db z)=false)(s:ax m (db y)=false)(v:∀o l b,keptV n z o l b=keptV m y o l b)(j:Nat)
  (u:∀i,i<j->i<m->i<n/\z i=y i) (g:j<n):j<m/\ba (y j)<=ba (z j):=by
 have a:=(o6 h g (wu (z j))).1;have f:=(cz (cd h j g)).2.2.2;rw[v] at a;obtain⟨q,r,t,p,w⟩:=tn (o:=(z j).o) (l:=(z j).l) (b:=(z j).b) s (by omega)
 generalize jp m y (z j).o (z j).l (z j).b=k at q r t p w
 have d:ba (y k)=ba (z j):=Ff (n:=(z j).n) r;have x:j<=k:=by
  rcases Nat.lt_or_ge k j with c|c
  .obtain⟨_,e⟩:=u k c q;have:=nk h k j c g;rw[e] at this;omega
  exact c
 refine⟨by omega,?_⟩;by_cases e:j=k
 .rw[e] at d ⊢;omega
 have:=p j (by omega);omega
theorem adf{m:Nat}{y:Nat->Hd}(g:ax n (db z)=false)(f:ax m (db y)=false)(p:∀o l b,keptV n z o l b=keptV m y o l b):
  ∀k j,j<k->(j<n->j<m/\z j=y j)/\(j<m->j<n/\z j=y j):=by
 intro k
 induction k with
 | zero=>intro j x;omega
 | succ k ih =>
  intro j x;by_cases u:j<k
  .exact ih j u
  have e:j=k:=by omega
  subst e;have q:j<n->j<m->z j=y j:=λs t=>by
   have a:=(Bu g f p j (λi hi d=>(ih i hi).2 d) s).2;have b:=(Bu f g (λo l b=>(p o l b).symm) j (λi hi d=>⟨((ih i hi).1 d).1,((ih i hi).1 d).2.symm⟩) t).2;have v:=Jl (cd g j s) (cd f j t) (by omega);have r:=(o6 g s v).1;have B:=(o6 f t (wu (y j))).1;rw[p,B] at r;have c:=fk v;cases w:z j;cases A:y j;rw[w,A] at c r;simp only at c r;simp[c,r]
  exact⟨λh=>⟨(Bu g f p j (λi hi d=>(ih i hi).2 d) h).1,q h (Bu g f p j (λi hi d=>(ih i hi).2 d) h).1⟩,
   λh=>⟨(Bu f g (λo l b=>(p o l b).symm) j (λi hi d=>⟨((ih i hi).1 d).1,((ih i hi).1 d).2.symm⟩) h).1,q (Bu f g (λo l b=>(p o l b).symm) j (λi hi d=>⟨((ih i hi).1 d).1,((ih i hi).1 d).2.symm⟩) h).1 h⟩⟩
theorem Z2{m:Nat}{y:Nat->Hd}(e:ax n (db z)=false)(f:ax m (db y)=false)(d:∀o l b,keptV n z o l b=keptV m y o l b):n=m/\∀j,j<n->z j=y j:=by
 have h:=adf e f d;refine⟨?_,λj a=>((h (j+1) j (by omega)).1 a).2⟩;rcases Nat.lt_trichotomy n m with c|c|c
 .have:=((h (n+1) n (by omega)).2 c).1;omega
 .exact c
 have:=((h (m+1) m (by omega)).1 c).1;omega
theorem aat(g:ax n (db z)=false)(f:ie h=true)(i:keptV n z h.o h.l h.b+h.n<=200):
  ax (qp n z h) (db (zj n z h))=false/\∀o l b,keptV (qp n z h) (zj n z h) o l b=keptV n z o l b+if bp h o l b then h.n else 0:=by
 by_cases c:keptV n z h.o h.l h.b=0
 .have e:qp n z h=n+1:=if_pos c;have d:zj n z h=mn z (jl n z h) h:=if_pos c;rw[e,d];obtain⟨a,b,_⟩:=acg g f c;exact⟨a,b⟩
 have e:qp n z h=n:=if_neg c;have d:zj n z h=sp z (jl n z h) ⟨h.o,h.l,h.b,keptV n z h.o h.l h.b+h.n⟩:=if_neg c;rw[e,d];obtain⟨a,b,_⟩:=ach g f c i;exact⟨a,b⟩
theorem Yf(e:addE n z h=0):ax n (db z)=false/\ie h=true/\keptV n z h.o h.l h.b+h.n<=200:=by
 unfold addE at e;by_cases a:gz n z=0
 .rw[if_pos a] at e;cases c:ie h
  .rw[c] at e;simp at e
  rw[c] at e;simp only[if_true] at e;by_cases d:200<keptV n z h.o h.l h.b+h.n
  .rw[if_pos d] at e;omega
  exact⟨Fv a,rfl,by omega⟩
 rw[if_neg a] at e;exact absurd e a
theorem Ay(h:ax n (db z)=false):gz n z=0:=by unfold gz;rw[h];rfl
theorem Uy(c:ax n (db z)=false)(a:ie h=true):addE n z h=if 200<keptV n z h.o h.l h.b+h.n then 3 else 0:=by
 unfold addE;rw[Ay c,a]
 rfl
theorem Gz{y:Nat->Hd}(h:∀j,j<n->z j=y j):ax n (db z)=ax n (db y):=by
 have e:∀j,j<n->db z j=db y j:=λj a=>by
  unfold db;rw[h j a];by_cases c:0<j
  .rw[h (j-1) (by omega)]
  simp[c]
 cases b:ax n (db y)
 .exact cu λj a=>by rw[e j a];exact dk b j a
 cases d:ax n (db z)
 .have:ax n (db y)=false:=cu λj a=>by rw[<-e j a];exact dk d j a
  rw[this] at b;cases b
 rfl
theorem zy{y:Nat->Hd}(h:∀j,j<n->z j=y j)(o l b:Int):keptV n z o l b=keptV n y o l b:=by
 rcases sx n y o l b with e|⟨k,c,f,d⟩
 .rw[kw e,kw λj a=>by rw[h j a];exact e j a]
 rw[m9 c f d,m9 c (λj a=>by rw[h j (by omega)];exact f j a) (by rw[h k c];exact d),h k c]
theorem Cn{z y:Nat->Hd}(o l:Int):∀{n:Nat},(∀j,j<n->z j=y j)->keptS z o l n=keptS y o l n
 | 0,_=>rfl
 | n+1,h=>by
  simp only[keptS];rw[Cn o l (n:=n) λj a=>h j (by omega),h n (by omega)]
theorem Eo.right{x:Hs}(hx:Eo n z h x)(e:addE n z h=0):
  ax x.n (db x.z)=false/\∀o l b,keptV x.n x.z o l b=keptV n z o l b+if bp h o l b then h.n else 0:=by
 obtain⟨a,b,c⟩:=Yf e;obtain⟨r,k⟩:=aat a b c;have f:x.n=qp n z h:=by have:=hx.1;rw[if_pos e] at this;exact this
 have d:=hx.2;rw[f] at d ⊢;exact⟨by rw[Gz d];exact r,λo l b=>by rw[zy d];exact k o l b⟩
theorem Eo.none{x:Hs}(hx:Eo n z h x)(e:¬addE n z h=0):x.n=0:=by
 have:=hx.1;rw[if_neg e] at this;exact this
theorem j8(r:ar p s):ag p s=0:=by
 have f:=r.fm;have l:gh s=false:=by
  unfold gh;have a:decide (4<s.os.n)=false:=decide_eq_false (by have:=f.os4;omega);have b:decide (8<s.ms.n)=false:=decide_eq_false (by have:=f.ms8;omega);have h:ax s.os.n (λi=>rb (s.os.z i))=false:=cu λi hi=>by
   unfold rb;rw[bw (by have:=f.lns i hi;omega)]
   rfl
  rw[a,b,h]
  rfl
 have g:jo p s=false:=cu λi hi=>by
  unfold mf;rw[bw (f.kind i hi),cu λj c=>f.line i hi j c]
  rfl
 have m:gt p s=false:=by
  unfold gt;rw[Ay f.hold,cu f.home]
  rfl
 have e:kt p s=false:=cu f.move;have k:∀{r:Rw} {low:Int},r.n=p.ns->(∀j,j<p.ns->low<=r.z j/\r.z j<=1048576)->mh p r low=false:=λ{r low} a b=>by
  unfold mh;rw[Xxq];refine⟨by simp[a],cu λj c => ?_⟩;rw[bw (b j (by omega))]
  rfl
 have d:fs p s=false:=by
  unfold fs;rw[k f.sin f.sib,k f.son f.sob,k f.sfn f.sfb]
  rfl
 rw[Bh f.sh0 l g m e d,show lq p s=false from cu r.goods,show jn s=false from cu r.orders]
 rfl
theorem qf(d:0<=h.o/\h.o.toNat<s.os.n)(c:0<=h.l/\h.l.toNat<(s.os.z h.o.toNat).ls.n)(a:0<=h.b/\h.b<p.nb):jf p s h=false:=by
 unfold jf;rw[bw (by omega),bw (by omega),bw (by omega)]
 rfl
theorem sw{x s:St}{b g:Int}:∀{k:Nat},(∀j,j<k->x.hs.z j=s.hs.z j)->(∀j,j<k->jw x (s.hs.z j)=jw s (s.hs.z j))->ca x b g k=ca s b g k
 | 0,_,_=>rfl
 | k+1,h1,h2=>by
  simp only[ca];rw[sw (k:=k) (λj a=>h1 j (by omega)) (λj a=>h2 j (by omega)),h1 k (by omega),h2 k (by omega)]
theorem pr{x s:St}{b g:Int}:∀{k:Nat},(∀j,j<k->x.ms.z j=s.ms.z j)->bj x b g k=bj s b g k
 | 0,_=>rfl
 | k+1,h1=>by
  simp only[bj];rw[pr (k:=k) (λj a=>h1 j (by omega)),h1 k (by omega)]
theorem J5{p:Pl}{x s:St}{b:Int}:∀{k:Nat},(∀j,j<k->x.ms.z j=s.ms.z j)->js p x b k=js p s b k
 | 0,_=>rfl
 | k+1,h1=>by
  simp only[js];rw[J5 (k:=k) (λj a=>h1 j (by omega)),h1 k (by omega)]
section
variable {p:Pl} {x t:St}
theorem af.held(h:af x t)(f:cx p t)(b g:Int):ca x b g x.hs.n=ca t b g t.hs.n:=by
 rw[h.hs.1];refine sw (λj a=>h.hs.2 j (by rw[h.hs.1];exact a)) (λj a => ?_);obtain⟨c,d,-⟩:=i8 (f.home j a);unfold jw;have o:=h.os.2 (t.hs.z j).o.toNat (by rw[h.os.1];exact c.2);rw[o.2.2 (t.hs.z j).l.toNat (by rw[o.2.1];exact d.2)]
theorem af.from(h:af x t)(b g:Int):bj x b g x.ms.n=bj t b g t.ms.n:=by
 rw[h.ms.1];exact pr λj a=>h.ms.2 j (by rw[h.ms.1];exact a)
theorem af.num(h:af x t)(f:cx p t)(d:b<p.nb)(c:g<p.ns):(x.on.r b).z g=(t.on.r b).z g:=by
 have a:b<t.on.n:=by rw[f.sh.n];exact d
 have r:=h.on.2 b (by rw[h.on.1];exact a);exact r.2 g (by rw[r.1,f.sh.len b a];exact c)
theorem af.avail(h:af x t)(f:cx p t)(c:b<p.nb)(a:g<p.ns):aw x b g=aw t b g:=by
 unfold aw;rw[h.num f c a,h.held f,h.from]
theorem af.free(h:af x t)(f:cx p t)(c:b<p.nb):gj p x b=gj p t b:=by
 unfold gj;have e:ff (x.on.r b).z p.zs p.ns=ff (t.on.r b).z p.zs p.ns:=En λj a=>h.num f c a;rw[e,h.ms.1,J5 λj a=>h.ms.2 j (by rw[h.ms.1];exact a)]
theorem af.formed(h:af x t)(f:cx p t):cx p x:=by
 have k:=(wh f.sh0).1;have hs:vz p x.on:=⟨f.sh.pl,h.on.1.trans f.sh.n,λi hi=>(h.on.2 i hi).1.trans (f.sh.len i (by rw[<-h.on.1];exact hi)),λi hi j a=>by
  have b:i<t.on.n:=by rw[<-h.on.1];exact hi
  rw[h.num f (by rw[<-f.sh.n];exact b) a];exact f.sh.num i b j a⟩
 have o:∀i,i<x.os.n->i<t.os.n:=λi hi=>by rw[<-h.os.1];exact hi
 refine⟨hs,yg k hs,by rw[h.os.1];exact f.os4,by rw[h.ms.1];exact f.ms8,λi hi=>by rw[(h.os.2 i hi).2.1];exact f.lns i (o i hi),λi hi=>by rw[(h.os.2 i hi).1];exact f.kind i (o i hi),λi hi j a => ?_,?_,λi hi => ?_,λi hi => ?_,h.si.1.trans f.sin,h.so.1.trans f.son,h.sf.1.trans f.sfn,λj a => ?_,λj a => ?_,λj a => ?_⟩
 .rw[(h.os.2 i hi).2.2 j a];exact f.line i (o i hi) j (by rw[<-(h.os.2 i hi).2.1];exact a)
 .rw[h.hs.1,Gz λj a=>h.hs.2 j (by rw[h.hs.1];exact a)];exact f.hold
 .have b:i<t.hs.n:=by rw[<-h.hs.1];exact hi
  obtain⟨e,d,g⟩:=i8 (f.home i b);rw[h.hs.2 i hi];have c:(t.hs.z i).o.toNat<x.os.n:=by rw[h.os.1];exact e.2
  exact qf ⟨e.1,c⟩ ⟨d.1,by rw[(h.os.2 _ c).2.1];exact d.2⟩ g
 .rw[h.ms.2 i hi];exact f.move i (by rw[<-h.ms.1];exact hi)
 .rw[h.si.2 j (by rw[h.si.1,f.sin];exact a)];exact f.sib j a
 .rw[h.so.2 j (by rw[h.so.1,f.son];exact a)];exact f.sob j a
 rw[h.sf.2 j (by rw[h.sf.1,f.sfn];exact a)];exact f.sfb j a
theorem af.right(h:af x t)(r:ar p t):ar p x:=by
 have f:=r.fm;refine⟨h.formed f,λg a => ?_,λi hi => ?_⟩
 .have:=r.goods g a;rw[qu] at this ⊢;rw[<-this]
  congr 1
  .have e:cv (λi=>(x.on.r i).z g) x.on.n=cv (λi=>(t.on.r i).z g) t.on.n:=by
    rw[h.on.1];exact ta λi hi=>h.num f (by rw[<-f.sh.n];exact hi) a
   rw[e,h.si.2 g (by rw[h.si.1,f.sin];exact a),h.so.2 g (by rw[h.so.1,f.son];exact a),h.sf.2 g (by rw[h.sf.1,f.sfn];exact a)]
  exact pe λb o=>by rw[h.avail f o a]
 have l:i<t.os.n:=by rw[<-h.os.1];exact hi
 have:=r.orders i l;rw[<-this];obtain⟨m,d,k⟩:=h.os.2 i hi;unfold ch;rw[m,d]
 congr 1
 .congr 2
  exact pe λj c=>by rw[k j (by rw[d];exact c)]
 refine pe λj c => ?_;rw[k j (by rw[d];exact c),h.hs.1,Cn _ _ λj c=>h.hs.2 j (by rw[h.hs.1];exact c)]
end
def frL(p:Pl)(f:Bool)(k:Nat):List Int:=((List.range k).filter (λi=>(p.zb i).front==f)).map Int.ofNat
theorem wo{f:Bool}{k:Nat}(h:(p.zb k).front=f):frL p f (k+1)=frL p f k++[(k:Int)]:=by simp[frL,List.range_succ,h]
theorem xw{f:Bool}{k:Nat}(h:¬(p.zb k).front=f):frL p f (k+1)=frL p f k:=by simp[frL,List.range_succ,h]
theorem Kg(p:Pl)(f:Bool)(k:Nat):(frL p f k).length<=k:=by
 unfold frL;rw[List.length_map];exact Qzx (List.length_filter_le _ _) (by simp)
def fq(p:Pl):List Int:=frL p true p.nb++frL p false p.nb
theorem Rw.ofOwns{base:Nat}{xs:List Int}(h:w.ownsRow base 3 1 v xs.length (xs.map (Value.int .i64))):∃r:Rw,v=r.val/\r.At w/\r.n=xs.length/\∀j,j<r.n->r.z j=xs.getD j 0:=by
 by_cases f:v = .slice Option.none 0 0
 .subst f;have b:xs.length=0:=by
   rcases h.2 with⟨_,b⟩|⟨s,p,k,e,_⟩
   .exact b
   cases e
  exact⟨⟨Option.none,0,0,λ_=>0⟩,rfl,⟨Nat.le_refl _,Qxz _,λi hi=>absurd hi (Qzq _)⟩,b.symm,λj l=>absurd l (Qzq _)⟩
 obtain⟨g,c,rfl,o,m,q,d⟩:=Blk.ofOwns h f;rw[Nat.mul_one] at d;refine⟨⟨some ⟨g,0,Option.none⟩,xs.length,c,λj=>xs.getD j 0⟩,rfl,⟨o,m,λi hi => ?_⟩,rfl,λj _=>rfl⟩;have a:i<xs.length:=hi;refine⟨g,0,rfl,d.lt,?_⟩;have:=d.cell (j:=i) a;rw[Nat.zero_add,this];simp[List.getD,a]
theorem Rt(p:Pl)(w:World)(V:p.At w)(hn:p.nb<=6):
  Calls prog 156 #[p.val] w λe w'=>∃v,e = .returned v/\w'.ownsRow w.heap.size 3 1 v (fq p).length ((fq p).map (Value.int .i64))/\Below w.heap.size w w':=by
 have leb:=V.leb;have capb:=V.capb;unfold maxLen at capb;have F:∃a,w.alloc (.cells #[.slice p.ab p.nb p.cb,.slice p.sa p.ns p.cs] 25)=a/\Below w.heap.size w a/\a.heap.size=w.heap.size+1/\∀t,Below a.heap.size a t->t.cell? ⟨w.heap.size,0,Option.none⟩=some (.slice p.ab p.nb p.cb)/\w.heap.size<t.heap.size :=
  ⟨_,rfl,(Below.refl w.heap.size w).alloc nlr _,by simp,λt h=>⟨(h.cell (p:=⟨w.heap.size,0,Option.none⟩) (by simp)).trans (by simp),by have:=h.size;simp at this;omega⟩⟩
 obtain⟨a,hW,z,M,B⟩:=F;have HW:Hid (w.alloc (.cells #[.slice p.ab p.nb p.cb,.slice p.sa p.ns p.cs] 25)=a):=hW;have HC:=hid B;have HP:Hid (∀t,Below a.heap.size a t->p.At t):=λt h=>(V.below z).below h;have HZ:=hid M;clear hW B M;obtain⟨i1,l,T,U,S⟩:=info_parts Du;simp only[Pl.val];go_enter func156,ntmps156;go_wp2_with fail;rw[HW.out]
 go_loopw [3,4] (λv i J=>∃k:Nat,k<=p.nb/\i = .int .i64 k/\J.ownsRow a.heap.size 3 1 v (frL p true k).length ((frL p true k).map (Value.int .i64))/\Below a.heap.size a J) (λ_ i _=>p.nb-(intOf i).toNat)
 case atStart=>exact⟨0,Qxz _,rfl,World.ownsRow_nil _ _ _ _,Below.refl _ _⟩
 obtain⟨k,hk,rfl,L,c⟩:=hrel;obtain⟨Q,D⟩:=HC.out _ c;have m:=hid L;clear L;by_cases A:k<p.nb
 .obtain⟨b,o,x,hb,P,z1,z2,z3⟩:=(HP.out _ c).bins k A;rw[x] at Q;clear x;have m1:(0:Int)<=(k:Int):=by omega
  cases r:(p.zb k).front
  .rw[r] at P;go_wp2_with fail;go_roundw
   case rel=>exact⟨k+1,by omega,by go_num,by rw[xw (by rw[r];decide)];exact m.out,c⟩
   case measure=>simp[intOf];omega
  rw[r] at P;have Y:=Kg p true k;go_wp2_with(at_builtin;refine wpList_append_own _ rfl (.tmp 19) (.tmp 21) 23 rfl a.heap.size 3 i1 (.int .i64 0) 1 8 underlying23 l T U S rfl (by decide) _ _ _ rfl (m.out.alloc _) ⟨wr.heap.size,0,Option.none⟩ 1 1 [.int .i64 k] rfl rfl ?c1 ?c2 ?c3 ?c4 ?c5 ?_)
  case c1 =>
   intro j u l
   match j,l with
   | 0,l=>simp at l;subst l;simp[Addr.add]
  case c2=>intro u G;simp at G;subst G;rfl
  case c3=>unfold maxLen;omega
  case c4=>omega
  case c5=>have:=c.size;simp;omega
  intro E y f d s;have n:=m.out.lt;have H:Below a.heap.size a y:=(c.alloc (by have:=c.size;omega) _).grown d (by have:=c.size;simp;omega) (λq W=>(n q W).1);have X:Hid (y.ownsRow a.heap.size 3 1 E (frL p true (k+1)).length ((frL p true (k+1)).map (Value.int .i64))):=by
   show y.ownsRow a.heap.size 3 1 E (frL p true (k+1)).length ((frL p true (k+1)).map (Value.int .i64));rw[wo r]
   simpa using f
  clear f d s n;go_wp2_with fail;go_roundw
  case rel=>exact⟨k+1,by omega,by go_num,X.out,H⟩
  case measure=>simp[intOf];omega
 have K:k=p.nb:=by omega
 subst K;go_wp2_with fail
 go_loopw [3,5] (λv i J=>∃k:Nat,k<=p.nb/\i = .int .i64 k/\J.ownsRow a.heap.size 3 1 v (frL p true p.nb++frL p false k).length ((frL p true p.nb++frL p false k).map (Value.int .i64))/\Below a.heap.size a J) (λ_ i _=>p.nb-(intOf i).toNat)
 case atStart=>exact⟨0,Qxz _,rfl,by simpa[frL] using m.out,c⟩
 clear m c Q D hk A;obtain⟨k,hk,rfl,L,c⟩:=hrel;obtain⟨Q,D⟩:=HC.out _ c;have m:=hid L;clear L;by_cases A:k<p.nb;rotate_left
 .go_wp2_with fail;go_ret;have K:k=p.nb:=by omega
  subst K;exact⟨_,rfl,⟨m.out.1,m.out.2.imp_right λ⟨g,cap,cur,h1,h2,h3⟩=>⟨g,cap,cur,h1,Qzx z.size h2,h3⟩⟩,z.trans (c.mono z.size)⟩
 obtain⟨b,o,x,hb,P,z1,z2,z3⟩:=(HP.out _ c).bins k A;rw[x] at Q;clear x;have m1:(0:Int)<=(k:Int):=by omega
 cases r:(p.zb k).front;rotate_left
 .rw[r] at P;go_wp2_with fail;go_roundw
  case rel=>exact⟨k+1,by omega,by go_num,by rw[xw (by rw[r];decide)];exact m.out,c⟩
  case measure=>simp[intOf];omega
 rw[r] at P;have Y:=Kg p false k;have am:=Kg p true p.nb;go_wp2_with(at_builtin;refine wpList_append_own _ rfl (.tmp 37) (.tmp 39) 23 rfl a.heap.size 3 i1 (.int .i64 0) 1 8 underlying23 l T U S rfl (by decide) _ _ _ rfl (m.out.alloc _) ⟨wr.heap.size,0,Option.none⟩ 1 1 [.int .i64 k] rfl rfl ?c1 ?c2 ?c3 ?c4 ?c5 ?_)
 case c1 =>
  intro j u l
  match j,l with
  | 0,l=>simp at l;subst l;simp[Addr.add]
 case c2=>intro u G;simp at G;subst G;rfl
 case c3=>rw[List.length_append];unfold maxLen;omega
 case c4=>rw[List.length_append];omega
 case c5=>have:=c.size;simp;omega
 intro E y f d s;have n:=m.out.lt;have H:Below a.heap.size a y:=(c.alloc (by have:=c.size;omega) _).grown d (by have:=c.size;simp;omega) (λq W=>(n q W).1);have X:Hid (y.ownsRow a.heap.size 3 1 E (frL p true p.nb++frL p false (k+1)).length ((frL p true p.nb++frL p false (k+1)).map (Value.int .i64))):=by
  show y.ownsRow a.heap.size 3 1 E (frL p true p.nb++frL p false (k+1)).length ((frL p true p.nb++frL p false (k+1)).map (Value.int .i64));rw[wo r]
  simpa[Nat.add_assoc] using f
 clear f d s n;go_wp2_with fail;go_roundw
 case rel=>exact⟨k+1,by omega,by go_num,X.out,H⟩
 case measure=>simp[intOf];omega
def Tn(p:Pl)(x:Int):Bool:=(p.zb x.toNat).front
theorem yr{f:Bool}{k:Nat}{x:Int}(h:x∈frL p f k):0<=x/\x<k/\Tn p x=f:=by
 simp only[frL,List.mem_map,List.mem_filter,List.mem_range,beq_iff_eq] at h;obtain⟨i,⟨hi,a⟩,rfl⟩:=h;exact⟨Int.natCast_nonneg _,by simp only[Int.ofNat_eq_natCast];omega,a⟩
theorem Np(p:Pl)(f:Bool):∀k,(frL p f k).Pairwise (· < ·)
 | 0=>by simp[frL]
 | k+1=>by
  by_cases h:(p.zb k).front=f
  .rw[wo h,List.pairwise_append];refine⟨Np p f k,List.pairwise_singleton _ _,λx hx y a => ?_⟩;rw[List.mem_singleton] at a;have:=(yr hx).2.1;omega
  rw[xw h];exact Np p f k
theorem O7(p:Pl):∀k,(frL p true k).length+(frL p false k).length=k
 | 0=>by simp[frL]
 | k+1=>by
  have a:=O7 p k;cases h:(p.zb k).front
  .rw[wo h,xw (by rw[h];decide),List.length_append,List.length_singleton];omega
  rw[wo h,xw (by rw[h];decide),List.length_append,List.length_singleton];omega
theorem Vg(p:Pl):(fq p).length=p.nb:=by
 unfold fq;rw[List.length_append,O7]
theorem Gp{x:Int}(h:x∈fq p):0<=x/\x<p.nb:=by
 unfold fq at h;rw[List.mem_append] at h;rcases h with h|h
 .exact⟨(yr h).1,(yr h).2.1⟩
 exact⟨(yr h).1,(yr h).2.1⟩
theorem Tr(p:Pl):(fq p).Pairwise (λx y=>¬x=y/\(Tn p y=true->Tn p x=true)/\(Tn p x=Tn p y->x<y)):=by
 unfold fq;rw[List.pairwise_append];refine⟨?_,?_,λx hx y c => ?_⟩
 .refine List.Pairwise.imp_of_mem ?_ (Np p true p.nb);intro x y hx c h;exact⟨by omega,λ_=>(yr hx).2.2,λ_=>h⟩
 .refine List.Pairwise.imp_of_mem ?_ (Np p false p.nb);intro x y hx c h;refine⟨by omega,λe => ?_,λ_=>h⟩;rw[(yr c).2.2] at e;cases e
 have a:=(yr hx).2.2;have b:=(yr c).2.2;refine⟨λe => ?_,λe=>a,λe => ?_⟩
 .rw[e,b] at a;cases a
 rw[a,b] at e;cases e
def Xv(p:Pl):List Int:=if et p=0 then fq p else []
theorem Tq(h:et p=0):Xv p=fq p:=if_pos h
theorem ac1(h:¬et p=0):Xv p=[]:=if_neg h
theorem abe{a:Nat}{size:Nat}(h:w.ownsRow A e size v n xs)(b:a<=A):w.ownsRow a e size v n xs :=
 ⟨h.1,h.2.imp_right λ⟨g,cap,cur,h1,h2,h3⟩=>⟨g,cap,cur,h1,Qzx b h2,h3⟩⟩
open Go.Sort
def bq(s:St)(b g:Int):Nat->Int
 | 0=>0
 | k+1=>bq s b g k+(if (s.ms.z k).b=b/\(s.ms.z k).o=g then(s.ms.z k).n else 0)
theorem D7{b g:Int}{k:Nat}(c:(s.ms.z k).b=b)(a:(s.ms.z k).o=g):bq s b g (k+1)=bq s b g k+(s.ms.z k).n:=by simp only[bq];rw[if_pos ⟨c,a⟩]
theorem z6{b g:Int}{k:Nat}(h:¬((s.ms.z k).b=b/\(s.ms.z k).o=g)):bq s b g (k+1)=bq s b g k:=by simp only[bq];rw[if_neg h,Int.add_zero]
theorem me{s:St}{b g:Int}:∀{n:Nat},(∀j,j<n->1<=(s.ms.z j).n/\(s.ms.z j).n<=200)->0<=bq s b g n/\bq s b g n<=200*n
 | 0,_=>by simp[bq]
 | n+1,h=>by
  have c:=me (b:=b) (g:=g) (n:=n) λj a=>h j (by omega);have:=h n (by omega);simp only[bq]
  split<;>omega
theorem Lq{z z' zs:Nat->Int}{m:Nat}{d:Int}:∀{n:Nat},(∀j,j<n->z' j=z j+if j=m then d else 0)->ff z' zs n=ff z zs n+if m<n then d*zs m else 0
 | 0,_=>by simp[ff]
 | n+1,h=>by
  simp only[ff];rw[Lq (m:=m) (d:=d) (n:=n) λj c=>h j (by omega),h n (by omega)];by_cases a:n=m
  .subst a;rw[if_pos rfl,if_neg (Nat.lt_irrefl n),if_pos (by omega),Int.add_mul];omega
  rw[if_neg a,Int.add_zero];by_cases b:m<n
  .rw[if_pos b,if_pos (by omega)];omega
  rw[if_neg b,if_neg (by omega)];omega
theorem O2{p:Pl}{s:St}(f:cx p s)(b:Int):∀n,n<=s.ms.n->ff (λg=>bq s b g n) p.zs p.ns=js p s b n
 | 0,_=>usedTo_zero' λj e=>rfl
 | n+1,hn=>by
  have i:=rv (f.move n (by omega));by_cases c:(s.ms.z n).b=b
  .rw[Oi c,<-O2 f b n (by omega),Lq (z:=λg=>bq s b g n) (m:=(s.ms.z n).o.toNat) (d:=(s.ms.z n).n) λj e => ?_,if_pos (by omega)];by_cases a:j=(s.ms.z n).o.toNat
   .rw[if_pos a];exact D7 c (by omega)
   rw[if_neg a,Int.add_zero];exact z6 (λh=>a (by omega))
  rw[Lp c,<-O2 f b n (by omega)];exact En λj e=>z6 (λh=>c h.1)
where
 usedTo_zero' {z zs:Nat->Int}:∀{n:Nat},(∀j,j<n->z j=0)->ff z zs n=0
  | 0,_=>rfl
  | n+1,h=>by simp only[ff];rw[usedTo_zero' (n:=n) λj hj=>h j (by omega),h n (by omega)];simp
theorem U8{a b:Int}(c:0<=a/\a<=1600)(e:1<=b/\b<=9):0<=a*b/\a*b<=14400:=by
 obtain⟨d,a1⟩:=c;have:b=1\/b=2\/b=3\/b=4\/b=5\/b=6\/b=7\/b=8\/b=9:=by omega
 rcases this with rfl|rfl|rfl|rfl|rfl|rfl|rfl|rfl|rfl<;>omega
theorem Oj{z zs:Nat->Int}{n:Nat}(h:∀j,j<n->(0<=z j/\z j<=1600)/\1<=zs j/\zs j<=9):∀k,k<=n->0<=ff z zs k/\ff z zs k<=14400*k
 | 0,_=>by simp[ff]
 | k+1,hk=>by
  have a:=Oj h k (by omega);have:=U8 (h k (by omega)).1 (h k (by omega)).2;simp only[ff];omega
theorem Db(p:Pl)(s:St)(bin good:Nat)(w:World)(hs:s.At w)(f:cx p s):
  Calls prog 116 #[s.val,.int .i64 bin,.int .i64 good] w λe L=>e = .returned (.int .i64 (bq s bin good s.ms.n))/\Below w.heap.size w L:=by
 obtain⟨d,A,t,D⟩:∃d,w.alloc (.cells s.cells 31)=d/\Below w.heap.size w d/\Blk d w.heap.size 31 7 (λj=>s.cells.getD j default):=⟨_,rfl,(Below.refl w.heap.size w).alloc nlr _,Blk.mk' rfl rfl⟩;have G:=hs.below t;have T:Hid (∀l,Below d.heap.size d l->s.At l/\l.cell? ⟨w.heap.size,3,none⟩=some (.slice s.ms.a s.ms.n s.ms.c)/\w.heap.size<l.heap.size):=
  λl h=>⟨G.below h,(D.below h).k 3,(D.below h).lt⟩
 have Y:=f.ms8;have S:Hid (∀k,k<=s.ms.n->0<=bq s bin good k/\bq s bin good k<=200*k):=λk H=>me λj hj=>f.moveN j (by omega);have K:Hid (w.alloc (.cells #[.slice s.on.a s.on.n s.on.c,.slice s.os.a s.os.n s.os.c,.slice s.hs.a s.hs.n s.hs.c,.slice s.ms.a s.ms.n s.ms.c,.slice s.si.a s.si.n s.si.c,.slice s.so.a s.so.n s.so.c,.slice s.sf.a s.sf.n s.sf.c] 31)=d):=A;simp only[St.val];clear D A;go_enter func116,ntmps116;go_wp2_with fail;rw[K.out]
 go_loopw [7,8] (λu i l=>∃k:Nat,k<=s.ms.n/\i = .int .i64 k/\u = .int .i64 (bq s bin good k)/\Below d.heap.size d l) (λ_ i _=>s.ms.n-(intOf i).toNat)
 case atStart=>exact⟨0,Qxz _,rfl,by simp[bq],Below.refl _ _⟩
 obtain⟨k,H,rfl,rfl,x⟩:=hrel;have m2:=S.out k H;obtain⟨B,c3,M⟩:=T.out wr x;by_cases v:k<s.ms.n;rotate_left
 .have E:k=s.ms.n:=by omega
  subst E;go_wp2_with fail;go_ret;exact⟨rfl,t.trans (x.mono t.size)⟩
 obtain⟨b,q,y,hb,z0,z1,V,z3⟩:=B.ms.hds k v;have X:=f.moveN k v;have m:Hid (((s.ms.z k).b=bin/\(s.ms.z k).o=good->bq s bin good (k+1)=bq s bin good k+(s.ms.z k).n)/\(¬((s.ms.z k).b=bin/\(s.ms.z k).o=good)->bq s bin good (k+1)=bq s bin good k)):=⟨λh=>D7 h.1 h.2,z6⟩;have W:(0:Int)<=(k:Int):=by omega
 rw[y] at c3;clear y B
 generalize bq s bin good k=U at *
 generalize (s.ms.z k).b=Q at *
 generalize (s.ms.z k).n=NN at *
 generalize (s.ms.z k).o=P at *
 cases F:(Q==(bin:Int))
 .have g:=m.out.2 (by simp at F;omega);have r:=hid g;clear g m;go_wp2_with fail;go_roundw
  case rel=>exact⟨k+1,by omega,by go_num,by rw[r.out],x⟩
  case measure=>simp[intOf];omega
 cases J:(P==(good:Int))
 .have g:=m.out.2 (by simp at J;omega);have r:=hid g;clear g m;go_wp2_with fail;go_roundw
  case rel=>exact⟨k+1,by omega,by go_num,by rw[r.out],x⟩
  case measure=>simp[intOf];omega
 have g:=m.out.1 ⟨by simpa using F,by simpa using J⟩;have r:=hid g;clear g m;go_wp2_with fail;go_roundw
 case rel=>exact⟨k+1,by omega,by go_num,by rw[r.out],x⟩
 case measure=>simp[intOf];omega
theorem Kr(p:Pl)(s:St)(bin good:Nat)(w:World)(hs:s.At w)(f:cx p s)(H:bin<p.nb)(A:good<p.ns):
  Calls prog 120 #[s.val,.int .i64 bin,.int .i64 good] w λe J=>e = .returned (.int .i64 (aw s bin good))/\Below w.heap.size w J:=by
 obtain⟨o,B,v,l⟩:∃o,w.alloc (.cells s.cells 31)=o/\Below w.heap.size w o/\Blk o w.heap.size 31 7 (λj=>s.cells.getD j default):=⟨_,rfl,(Below.refl w.heap.size w).alloc nlr _,Blk.mk' rfl rfl⟩;have i:=hs.below v;have u:bin<s.on.n:=by rw[f.sh.n];exact H
 obtain⟨Q,S,m,ab,K,d⟩:=i.on.rows bin u;have t:=f.sh.len bin u;have V:=f.sh.num bin u good A;obtain⟨br,af,E,ac,M⟩:=d.ints good (by omega);have G:=d.le;have x:=d.cap;have U:=i.on.le;have y:=i.on.cap;unfold maxLen at x y;rw[E,t] at K;rw[t] at G;have ag:=f.hs72;have m8:=f.ms8;have Y:=nw (s:=s) (b:=bin) (g:=good) f.holdN;have W:=jx (s:=s) (b:=bin) (g:=good) f.moveN;have F:o.cell? ⟨w.heap.size,0,none⟩=some (.slice s.on.a s.on.n s.on.c):=l.k 0;rw[m] at F;have D:=qa2 i m;have r0:=Qqq F;have r1:=Qqq (l.k 1);have r2:=Qqq (l.k 2);have r3:=Qqq (l.k 3);have r4:=Qqq (l.k 4);have r5:=Qqq (l.k 5);have r6:=Qqq (l.k 6);have r7:=Qqq K;have r8:=Qqq M;have T:Hid (∀q,s.At q->Calls prog 113 #[.agg #[.slice (some ⟨Q,S,none⟩) s.on.n s.on.c,.slice s.os.a s.os.n s.os.c,.slice s.hs.a s.hs.n s.hs.c,.slice s.ms.a s.ms.n s.ms.c,.slice s.si.a s.si.n s.si.c,.slice s.so.a s.so.n s.so.c,.slice s.sf.a s.sf.n s.sf.c],.int .i64 bin,.int .i64 good] q λe J=>e = .returned (.int .i64 (ca s bin good s.hs.n+bj s bin good s.ms.n))/\Below q.heap.size q J):=λq h=>by
  have:=I4 p s bin good q h f;rw[St.val,D.out.2] at this;exact this
 have HE:Hid (aw s bin good=(s.on.r bin).z good-(ca s bin good s.hs.n+bj s bin good s.ms.n)):=by show aw s bin good=_;unfold aw;omega
 have X:Hid (w.alloc (.cells #[.slice (some ⟨Q,S,none⟩) s.on.n s.on.c,.slice s.os.a s.os.n s.os.c,.slice s.hs.a s.hs.n s.hs.c,.slice s.ms.a s.ms.n s.ms.c,.slice s.si.a s.si.n s.si.c,.slice s.so.a s.so.n s.so.c,.slice s.sf.a s.sf.n s.sf.c] 31)=o):=by show _=o;rw[<-B,St.cells,m]
 have q1:(0:Int)<=(bin:Int):=by omega
 have q2:(0:Int)<=(good:Int):=by omega
 simp only[St.val,m];clear l B d t m E i F K M f hs
 generalize aw s bin good=AV at *
 have ae:0<=ca s bin good s.hs.n+bj s bin good s.ms.n/\ca s bin good s.hs.n+bj s bin good s.ms.n<=16000:=by omega
 clear Y W
 generalize ca s bin good s.hs.n+bj s bin good s.ms.n=BD at *
 generalize (s.on.r bin).z good=ON at *
 generalize (s.on.r bin).c=RC at *
 go_enter func120,ntmps120;go_wp2_with fail;rw[X.out];refine Qxq (by kernel_rfl) (by kernel_rfl) ?_
 repeat(go_big_quiet_step((go_at_call 113;exact Xxz (T.out _ (D.out.1.below (Qxx _ _ _))))))
 refine Qqz ?_;intro _ P;obtain⟨⟨dq,ad⟩,L⟩:=P;subst L;go_wp2_with fail;go_ret;exact⟨by rw[HE.out];rfl,v.trans ((Qxx _ _ _).mono v.size)⟩
theorem Mw(p:Pl)(s:St)(bin:Nat)(w:World)(hp:p.At w)(hs:s.At w)(f:cx p s)(o:bin<p.nb):
  Calls prog 115 #[p.val,s.val,.int .i64 bin] w λe G=>e = .returned (.int .i64 (gj p s bin))/\Below w.heap.size w G:=by
 obtain⟨K,hW,ab,X0⟩:=Jr w p s;have HC:=Hu hp hs ab X0;have HW:=hid hW;have F:=hid f;have ns3:=f.sh.pl.ns3;have ms8:=f.ms8;have M:bin<s.on.n:=by rw[f.sh.n];exact o
 have ub:=yh (z:=(s.on.r bin).z) (zs:=p.zs) (n:=p.ns) (λj L=>⟨f.sh.num bin M j L,f.sh.pl.sizes j L⟩) p.ns nlr;have room:0<=(p.zb bin).room/\(p.zb bin).room<=1000:=by
  have:=f.sh.pl.bins bin o;simp only[rm,Xxq,Bool.not_eq_false'] at this;exact au this.1.1
 have HU:Hid (∀k,k<=p.ns->0<=ff (λg=>bq s bin g s.ms.n) p.zs k/\ff (λg=>bq s bin g s.ms.n) p.zs k<=14400*k):=λk hk=>Oj (n:=p.ns) (λj L=>⟨by have:=me (s:=s) (b:=bin) (g:=j) f.moveN;omega,f.sh.pl.sizes j L⟩) k hk;have HE:Hid (gj p s bin=(p.zb bin).room-ff (s.on.r bin).z p.zs p.ns-ff (λg=>bq s bin g s.ms.n) p.zs p.ns):=by show gj p s bin=_;rw[O2 f bin s.ms.n nlr];rfl
 have q1:(0:Int)<=(bin:Int):=by omega
 clear hW X0 hp hs f;unfold Pl.val St.val;go_enter func115,ntmps115;go_wp2_with fail;rw[HW.out];obtain⟨X,l,m,y⟩:=HC.out K brf;obtain⟨⟨Y,A,J⟩,l2,v,c1,c2,c3,c4,c5,c6⟩:=X;obtain⟨bb,bo,B,ap,y0,y1,y2,y3⟩:=l.bins bin o;have t:=qa3 m.on l B;rw[B] at A;have T:=Qqq A;have Q:=Qqq J;have V:=Qqq v;have S:=Qqq y1;have P:Hid (∀d,p.At d->s.on.At d->Calls prog 155 #[.agg #[.slice (some ⟨bb,bo,none⟩) p.nb p.cb,.slice p.sa p.ns p.cs],.slice s.on.a s.on.n s.on.c,.int .i64 bin] d λe G=>e = .returned (.int .i64 (ff (s.on.r bin).z p.zs p.ns))/\Below d.heap.size d G):=λd h1 h2=>by
  have:=Vo p s.on bin d h1 h2 F.out.sh M;rw[Pl.val,t.out.2.2] at this;exact this
 clear B l m A J v c1 c2 c3 c4 c5 c6 y0 y1 y2 y3 HW
 generalize ff (s.on.r bin).z p.zs p.ns=US at *
 generalize (p.zb bin).room=RM at *
 refine Qxq (by kernel_rfl) (by kernel_rfl) ?_
 repeat(go_big_quiet_step((go_at_call 155;exact Xxz (P.out _ (t.out.2.1.below (Qxx _ _ _)) (t.out.1.below (Qxx _ _ _))))))
 refine Qqz ?_;intro _ E;obtain⟨⟨W,D⟩,q⟩:=E;subst q;have x:=Qxx K W D;clear T Q V S P t y Y l2 ap
 generalize grow (redrawn K W) D=wz at *
 go_wp2_with fail
 go_loopw [7,8] (λu i d=>∃k:Nat,k<=p.ns/\i = .int .i64 k/\u = .int .i64 (RM-US-ff (λg=>bq s bin g s.ms.n) p.zs k)/\Below K.heap.size K d) (λ_ i _=>p.ns-(intOf i).toNat)
 case atStart=>exact⟨0,Qxz _,rfl,by simp[ff],x⟩
 clear x;obtain⟨g,hg,rfl,rfl,x⟩:=hrel;have ug:=HU.out g hg;obtain⟨X,l,m,y⟩:=HC.out wr x;obtain⟨⟨Y,A,J⟩,l2,v,c1,c2,c3,c4,c5,c6⟩:=X;by_cases H:g<p.ns;rotate_left
 .have al:g=p.ns:=by omega
  subst al;clear l m v c1 c2 c3 c4 c5 c6;go_wp2_with fail;go_ret;exact⟨by rw[HE.out];rfl,y⟩
 obtain⟨b1,o1,e1,g1,z1⟩:=l.sizes g H;have qg:(0:Int)<=(g:Int):=by omega
 have ah:=me (s:=s) (b:=bin) (g:=g) F.out.moveN;have U:0<=bq s bin g s.ms.n/\bq s bin g s.ms.n<=1600:=by omega
 have bd:=U8 U (F.out.sh.pl.sizes g H);have ad:Hid (ff (λg=>bq s bin g s.ms.n) p.zs (g+1)=ff (λg=>bq s bin g s.ms.n) p.zs g+bq s bin g s.ms.n*p.zs g):=rfl;rw[e1] at J;have af:=hid m;have T:=Qqq v;have Q:=Qqq c1;have V:=Qqq c2;have S:=Qqq c3;have r4:=Qqq c4;have r5:=Qqq c5;have r6:=Qqq c6;have r7:=Qqq J;have r8:=Qqq z1;have ak:Hid (∀d,s.At d->Calls prog 116 #[.agg #[.slice s.on.a s.on.n s.on.c,.slice s.os.a s.os.n s.os.c,.slice s.hs.a s.hs.n s.hs.c,.slice s.ms.a s.ms.n s.ms.c,.slice s.si.a s.si.n s.si.c,.slice s.so.a s.so.n s.so.c,.slice s.sf.a s.sf.n s.sf.c],.int .i64 bin,.int .i64 g] d λe G=>e = .returned (.int .i64 (bq s bin g s.ms.n))/\Below d.heap.size d G):=λd h=>Db p s bin g d h F.out;have pz:=F.out.sh.pl.sizes g H;clear e1 l m A v c1 c2 c3 c4 c5 c6 z1 ah
 generalize ff (λg=>bq s bin g s.ms.n) p.zs g=U0 at *
 generalize bq s bin g s.ms.n=CM at *
 generalize p.zs g=PZ at *
 go_wp2_with fail;refine Qxq (by kernel_rfl) (by kernel_rfl) ?_
 repeat(go_big_quiet_step((go_at_call 116;exact Xxz (ak.out _ (af.out.below (Qxx _ _ _))))))
 refine Qqz ?_;intro _ E;obtain⟨⟨W,D⟩,q⟩:=E;subst q;clear T Q V S r4 r5 r6 r7 r8;go_wp2_with fail;go_roundw
 case rel=>exact⟨g+1,by omega,by go_num,by rw[ad.out,Int.sub_sub _ U0],x.trans ((Qxx _ _ _).mono x.size)⟩
 case measure=>simp[intOf];omega
theorem af.symm{t:St}(h:af s t):af t s:=by
 refine⟨⟨h.on.1.symm,λi hi => ?_⟩,⟨h.os.1.symm,λi hi => ?_⟩,⟨h.hs.1.symm,λj a=>(h.hs.2 j (by rw[h.hs.1];exact a)).symm⟩,⟨h.ms.1.symm,λj a=>(h.ms.2 j (by rw[h.ms.1];exact a)).symm⟩,⟨h.si.1.symm,λj a=>(h.si.2 j (by rw[h.si.1];exact a)).symm⟩,⟨h.so.1.symm,λj a=>(h.so.2 j (by rw[h.so.1];exact a)).symm⟩,⟨h.sf.1.symm,λj a=>(h.sf.2 j (by rw[h.sf.1];exact a)).symm⟩⟩
 .have x:=h.on.2 i (by rw[h.on.1];exact hi);exact⟨x.1.symm,λj a=>(x.2 j (by rw[x.1];exact a)).symm⟩
 have x:=h.os.2 i (by rw[h.os.1];exact hi);exact⟨x.1.symm,x.2.1.symm,λj a=>(x.2.2 j (by rw[x.2.1];exact a)).symm⟩
theorem af.trans{t:St}(h:af s t)(k:af t u):af s u:=by
 refine⟨⟨h.on.1.trans k.on.1,λi hi => ?_⟩,⟨h.os.1.trans k.os.1,λi hi => ?_⟩,⟨h.hs.1.trans k.hs.1,λj a=>(h.hs.2 j a).trans (k.hs.2 j (by rw[<-h.hs.1];exact a))⟩,⟨h.ms.1.trans k.ms.1,λj a=>(h.ms.2 j a).trans (k.ms.2 j (by rw[<-h.ms.1];exact a))⟩,⟨h.si.1.trans k.si.1,λj a=>(h.si.2 j a).trans (k.si.2 j (by rw[<-h.si.1];exact a))⟩,⟨h.so.1.trans k.so.1,λj a=>(h.so.2 j a).trans (k.so.2 j (by rw[<-h.so.1];exact a))⟩,⟨h.sf.1.trans k.sf.1,λj a=>(h.sf.2 j a).trans (k.sf.2 j (by rw[<-h.sf.1];exact a))⟩⟩
 .have x:=h.on.2 i hi;have y:=k.on.2 i (by rw[<-h.on.1];exact hi);exact⟨x.1.trans y.1,λj a=>(x.2 j a).trans (y.2 j (by rw[<-x.1];exact a))⟩
 have x:=h.os.2 i hi;have y:=k.os.2 i (by rw[<-h.os.1];exact hi);exact⟨x.1.trans y.1,x.2.1.trans y.2.1,λj a=>(x.2.2 j a).trans (y.2.2 j (by rw[<-x.2.1];exact a))⟩
def lp(r:Rw)(j:Nat)(x:Int):Rw:=⟨r.a,r.n,r.c,λi=>if i=j then x else r.z i⟩
def setOn(s:St)(b g:Nat)(x:Int):St:=⟨⟨s.on.a,s.on.n,s.on.c,λi=>if i=b then lp (s.on.r i) g x else s.on.r i⟩,s.os,s.hs,s.ms,s.si,s.so,s.sf⟩
def setIn(s:St)(g:Nat)(x:Int):St:=⟨s.on,s.os,s.hs,s.ms,lp s.si g x,s.so,s.sf⟩
theorem j9.set{r:Rw}{G:Nat}(h:j9 A w r)(c:r.a=some ⟨G,0,none⟩)(j:Nat)(x:Int):j9 A (w.setCell ⟨G,j,none⟩ (.int .i64 x)) (lp r j x):=by
 obtain⟨g,b,e,l,k,f⟩:=h;rw[c] at b;simp only[Qkx,Qkz,and_true] at b;subst b;refine⟨G,c,e,l,k,(f.set j (.int .i64 x)).congr λi hi => ?_⟩;show(if i=j then _ else _)=Value.int .i64 (if i=j then x else r.z i);by_cases d:i=j<;>simp[d]
theorem j9.apart{r:Rw}{G:Nat}(h:j9 A w r)(f:r.a≠some ⟨G,0,none⟩)(j:Nat)(u:Value):j9 A (w.setCell ⟨G,j,none⟩ u) r:=by
 obtain⟨g,b,c,k,i,d⟩:=h;refine⟨g,b,c,k,i,d.other (a:=⟨G,j,none⟩) (λe=>f ?_) u⟩;rw[b,show g=G from e]
theorem Xn{x:Int}(i:Nat):(if i=b then lp (s.on.r i) g x else s.on.r i).a=(s.on.r i).a:=by
 by_cases h:i=b<;>simp[h,lp]
theorem ai.setOn{G:Nat}(h:ai A w s)(o:b<s.on.n)(k:(s.on.r b).a=some ⟨G,0,none⟩)(g:Nat)(x:Int):ai A (w.setCell ⟨G,g,none⟩ (.int .i64 x)) (Go.Proofs.YtbcacebifpagpagGreat.setOn s b g x):=by
 obtain⟨F,l,_,_,_,d⟩:=h.rows b o;rw[k] at l;simp only[Qkx,Qkz,and_true] at l;subst l;have q:=h.ari b o;rw[k] at q;refine⟨?_,λi hi => ?_,λi j t y => ?_,h.os.other d (by decide) (by decide) g _,h.hs.other d (by decide) g _,h.ms.other d (by decide) g _,h.msr.set _ _ _,h.si.apart (λe=>q.1 e.symm) g _,h.so.apart (λe=>q.2.1 e.symm) g _,h.sf.apart (λe=>q.2.2 e.symm) g _,h.aio,h.aif,h.aof,λi hi => ?_⟩
 .obtain⟨E,p,z,B,D,m⟩:=h.on;refine⟨E,p,z,B,D,(m.other (a:=⟨G,g,none⟩) (Blk.ne2 m d (by decide)) _).congr λi hi => ?_⟩;show _=Value.slice (if i=b then lp (s.on.r i) g x else s.on.r i).a (if i=b then lp (s.on.r i) g x else s.on.r i).n (if i=b then lp (s.on.r i) g x else s.on.r i).c;by_cases f:i=b<;>simp[f,lp]
 .show j9 A _ (if i=b then lp (s.on.r i) g x else s.on.r i);by_cases f:i=b
  .subst f;rw[if_pos rfl];exact(h.rows i hi).set k g x
  rw[if_neg f];refine(h.rows i hi).apart (λe => ?_) g _;rcases Nat.lt_or_gt_of_ne f with u|v
  .exact h.rapart i b u o (e.trans k.symm)
  exact h.rapart b i v hi (k.trans e.symm)
 .show(if i=b then lp (s.on.r i) g x else s.on.r i).a≠(if j=b then lp (s.on.r j) g x else s.on.r j).a;rw[Xn,Xn];exact h.rapart i j t y
 show(if i=b then lp (s.on.r i) g x else s.on.r i).a≠_/\(if i=b then lp (s.on.r i) g x else s.on.r i).a≠_/\(if i=b then lp (s.on.r i) g x else s.on.r i).a≠_;rw[Xn];exact h.ari i hi
theorem ai.setIn{G:Nat}(h:ai A w s)(c:s.si.a=some ⟨G,0,none⟩)(g:Nat)(x:Int):ai A (w.setCell ⟨G,g,none⟩ (.int .i64 x)) (Go.Proofs.YtbcacebifpagpagGreat.setIn s g x):=by
 obtain⟨o,d,_,_,_,b⟩:=h.si;rw[c] at d;simp only[Qkx,Qkz,and_true] at d;subst d;refine⟨?_,λi hi=>(h.rows i hi).apart (λe=>(h.ari i hi).1 (e.trans c.symm)) g _,h.rapart,h.os.other b (by decide) (by decide) g _,h.hs.other b (by decide) g _,h.ms.other b (by decide) g _,h.msr.set _ _ _,h.si.set c g x,h.so.apart (λe=>h.aio (c.trans e.symm)) g _,h.sf.apart (λe=>h.aif (c.trans e.symm)) g _,h.aio,h.aif,h.aof,h.ari⟩;obtain⟨n,j,l,k,m,f⟩:=h.on;exact⟨n,j,l,k,m,f.other (a:=⟨G,g,none⟩) (Blk.ne2 f b (by decide)) _⟩
def dx(s:St)(b g:Nat):Int:=(s.on.r b).z g+bq s b g s.ms.n
def ii(p:Pl)(s:St)(bin good n:Int):Int :=
 if ag p s=0 then(if inB bin 0 ((p.nb:Int)-1)&&inB good 0 ((p.ns:Int)-1)&&inB n 1 200 then(if gj p s bin.toNat<n*p.zs good.toNat then 5 else if 200<dx s bin.toNat good.toNat+n\/1048576<s.si.z good.toNat+n then 2 else 0) else 3) else ag p s
def mt(s:St)(b g:Nat)(n:Int):St:=setIn (setOn s b g ((s.on.r b).z g+n)) g (s.si.z g+n)
def ij(E:Int)(t s':St):Prop:=(E=0->af s' t)/\(¬E=0->Er s')
theorem zd{t:St}(h:af s t)(b g:Nat)(x:Int):af (setOn s b g x) (setOn t b g x):=by
 refine⟨⟨h.on.1,λi hi => ?_⟩,h.os,h.hs,h.ms,h.si,h.so,h.sf⟩;have y:=h.on.2 i hi;show(if i=b then lp (s.on.r i) g x else s.on.r i).n=(if i=b then lp (t.on.r i) g x else t.on.r i).n/\∀j,j<(if i=b then lp (s.on.r i) g x else s.on.r i).n->(if i=b then lp (s.on.r i) g x else s.on.r i).z j=(if i=b then lp (t.on.r i) g x else t.on.r i).z j;by_cases a:i=b
 .rw[if_pos a,if_pos a];refine⟨y.1,λj c => ?_⟩;show(if j=g then x else(s.on.r i).z j)=if j=g then x else(t.on.r i).z j;rw[y.2 j c]
 rw[if_neg a,if_neg a];exact y
theorem H5{t:St}(h:af s t)(g:Nat)(x:Int):af (setIn s g x) (setIn t g x):=by
 refine⟨h.on,h.os,h.hs,h.ms,⟨h.si.1,λj a => ?_⟩,h.so,h.sf⟩;show(if j=g then x else s.si.z j)=if j=g then x else t.si.z j;rw[h.si.2 j a]
theorem ip{f:Func}{r u:Tmp}(t:f.results=#[.cell r 31,.tmp u]){a:Act}{d:Int}{T:St}{c:World}{B:Nat}{g:Nat->Value}(o:Blk c B 31 7 g)(k:Below w.heap.size w c)(s:w.heap.size<=B)(hx:W=d)(m:¬d=0)(q:a.tmps.getD r undef = .pointer (some ⟨B,0,none⟩))(p:a.tmps.getD u undef = .int .i64 d)(hd:a.defers=[]):
  bodyPost prog f (λe j=>∃y:St,e = .returned (.tuple #[y.val,.int .i64 W])/\y.At j/\ij W T y/\(W=0->ai w.heap.size j y)/\Below w.heap.size w j) Exit.ret a (((((((c.setCell ⟨B,0,none⟩ (.slice none 0 0)).setCell ⟨B,1,none⟩ (.slice none 0 0)).setCell ⟨B,2,none⟩ (.slice none 0 0)).setCell ⟨B,3,none⟩ (.slice none 0 0)).setCell ⟨B,4,none⟩ (.slice none 0 0)).setCell ⟨B,5,none⟩ (.slice none 0 0)).setCell ⟨B,6,none⟩ (.slice none 0 0)):=by
 have l:=nl o (.slice none 0 0) (.slice none 0 0) (.slice none 0 0) (.slice none 0 0) (.slice none 0 0) (.slice none 0 0) (.slice none 0 0);have i:=j7 (b:=B) k s (.slice none 0 0) (.slice none 0 0) (.slice none 0 0) (.slice none 0 0) (.slice none 0 0) (.slice none 0 0) (.slice none 0 0);unfold set7 at l i;obtain⟨n,c1,c2,c3,c4,c5,c6⟩:=df l
 generalize (((((((c.setCell ⟨B,0,none⟩ (.slice none 0 0)).setCell ⟨B,1,none⟩ (.slice none 0 0)).setCell ⟨B,2,none⟩ (.slice none 0 0)).setCell ⟨B,3,none⟩ (.slice none 0 0)).setCell ⟨B,4,none⟩ (.slice none 0 0)).setCell ⟨B,5,none⟩ (.slice none 0 0)).setCell ⟨B,6,none⟩ (.slice none 0 0))=E at *
 refine Xzq (v := .tuple #[j5.val,.int .i64 d]) ?_ hd ?_
 .rw[results_cell_tmp t,q,p];simp[go_sem,j5,St.val,n,c1,c2,c3,c4,c5,c6]
 exact⟨j5,by rw[hx],uo _,⟨λh=>absurd (hx.symm.trans h) m,λ_=>⟨rfl,rfl,rfl,rfl,rfl,rfl,rfl⟩⟩,λh=>absurd (hx.symm.trans h) m,i⟩
structure Tk where
 left:Int
 took:Int->Int
def Tk.step(av:Int->Int)(t:Tk)(b:Int):Tk:=⟨t.left-min t.left (av b),λx=>t.took x+if x=b then min t.left (av b) else 0⟩
def Tk.go(av:Int->Int)(n:Int)(l:List Int):Tk:=l.foldl (Tk.step av) ⟨n,λ_=>0⟩
theorem Tk.go_more(av:Int->Int)(n:Int)(l:List Int)(b:Int):Tk.go av n (l++[b])=(Tk.go av n l).step av b:=by
 unfold Tk.go;rw[List.foldl_append]
 rfl
structure Ar(av:Int->Int)(n:Int)(l:List Int)(t:Tk):Prop where
 left0:0<=t.left
 leftn:t.left<=n
 took0:∀x,0<=t.took x
 tookn:∀x,t.took x<=n-t.left
 had:∀x,x∈l->t.took x<=av x
 other:∀x,x ∉ l->t.took x=0
 all:0<t.left->∀x,x∈l->t.took x=av x
 sum:cv (λb=>t.took b) 6=n-t.left
theorem ado{av:Int->Int}{n:Int}(u:0<=n):∀{l:List Int},l.Pairwise (λx y=>¬x=y)->(∀x,x∈l->0<=av x)->(∀x,x∈l->0<=x/\x<6)->Ar av n l (Tk.go av n l):=by
 suffices H:∀(k:Nat) (l:List Int),l.length=k->l.Pairwise (λx y=>¬x=y)->(∀x,x∈l->0<=av x)->(∀x,x∈l->0<=x/\x<6)->Ar av n l (Tk.go av n l) from λ{l}=>H l.length l rfl
 intro k
 induction k with
 | zero =>
  intro l g _ _ _;obtain rfl:=List.eq_nil_of_length_eq_zero g;exact⟨u,Int.le_refl _,λ_=>Int.le_refl _,λ_=>by show(0:Int)<=n-n;omega,λx h=>by simp at h,λ_ _=>rfl,λ_ x h=>by simp at h,by show(0:Int)+0+0+0+0+0+0=n-n;omega⟩
 | succ m ih =>
  intro l0 c hd j f;obtain⟨l,b,rfl⟩:∃l b,l0=l++[b]:=⟨l0.dropLast,l0.getLast (by intro e;rw[e] at c;simp at c),(List.dropLast_concat_getLast _).symm⟩;have p:l.length=m:=by simpa using c
  rw[List.pairwise_append] at hd;have s:b ∉ l:=λr=>hd.2.2 b r b (by simp) rfl;have k:=ih l p hd.1 (λx hx=>j x (by simp[hx])) (λx hx=>f x (by simp[hx]));have v:=f b (by simp);have D:=j b (by simp);rw[Tk.go_more]
  generalize Tk.go av n l=t at k
  have E:=k.left0;have B:=k.leftn;have q:0<=min t.left (av b)/\min t.left (av b)<=t.left/\min t.left (av b)<=av b:=by omega
  have w:=k.other b s;refine⟨?_,?_,λx => ?_,λx => ?_,λx hx => ?_,λx hx => ?_,λg x hx => ?_,?_⟩
  .show 0<=t.left-min t.left (av b);omega
  .show t.left-min t.left (av b)<=n;omega
  .have:=k.took0 x;show 0<=t.took x+if x=b then min t.left (av b) else 0
   split<;>omega
  .have:=k.tookn x;show(t.took x+if x=b then min t.left (av b) else 0)<=n-(t.left-min t.left (av b))
   split<;>omega
  .show(t.took x+if x=b then min t.left (av b) else 0)<=av x;by_cases a:x=b
   .subst a;rw[if_pos rfl];omega
   rw[if_neg a];have:x∈l:=by simpa[a] using hx
   have:=k.had x this;omega
  .show(t.took x+if x=b then min t.left (av b) else 0)=0;have a:¬x=b:=λe=>hx (by simp[e]);have o:x ∉ l:=λe=>hx (by simp[e]);rw[if_neg a,k.other x o]
   rfl
  .have A:0<t.left-min t.left (av b):=g;show(t.took x+if x=b then min t.left (av b) else 0)=av x;by_cases a:x=b
   .subst a;rw[if_pos rfl];omega
   rw[if_neg a];have:x∈l:=by simpa[a] using hx
   have:=k.all (by omega) x this;omega
  show cv (λx=>t.took x+if (x:Int)=b then min t.left (av b) else 0) 6=n-(t.left-min t.left (av b));have e:=k.sum;rw[Cy (z:=λx=>t.took x) (m:=b.toNat) (n:=min t.left (av b)) (by omega) λi hi=>by
   by_cases d:i=b.toNat
   .have:((i:Nat):Int)=b:=by omega
    rw[if_pos this,if_pos d]
   have:¬((i:Nat):Int)=b:=by omega
   rw[if_neg this,if_neg d,Int.add_zero],e]
  omega
def fg(p:Pl)(but:Int):List Int:=(fq p).filter (λb => !(b==but))
theorem yi{but x:Int}:x∈fg p but↔x∈fq p/\¬x=but:=by
 unfold fg;rw[List.mem_filter];simp
theorem vx(p:Pl)(but:Int):(fg p but).Pairwise (λx y=>¬x=y):=((Tr p).imp λh=>h.1).filter _
def di(p:Pl)(s:St):Bool := !(jo p s||gt p s||kt p s||fs p s)
theorem Sl(hi:i<s.os.n)(h:mf p (s.os.z i)=true):di p s=false:=by
 have:jo p s=true:=dv hi h;simp[di,this]
theorem aa3(h:¬gz s.hs.n s.hs.z=0):di p s=false:=by
 have:gt p s=true:=by simp[gt,h]
 simp[di,this]
theorem ack(hi:i<s.hs.n)(h:jf p s (s.hs.z i)=true):di p s=false:=by
 have:gt p s=true:=by unfold gt;rw[dv hi h,Bool.or_true]
 simp[di,this]
theorem aco(hi:i<s.ms.n)(h:mp p (s.ms.z i)=true):di p s=false:=by
 have:kt p s=true:=dv hi h;simp[di,this]
theorem acl(h:¬s.si.n=p.ns):di p s=false:=by
 have:fs p s=true:=by
  have a:((s.si.n:Int) !=(p.ns:Int))=true:=by simp;omega
  simp[fs,mh,a]
 simp[di,this]
theorem acm(h:¬s.so.n=p.ns):di p s=false:=by
 have:fs p s=true:=by
  have a:((s.so.n:Int) !=(p.ns:Int))=true:=by simp;omega
  simp[fs,mh,a]
 simp[di,this]
theorem acn(h:¬s.sf.n=p.ns):di p s=false:=by
 have:fs p s=true:=by
  have a:((s.sf.n:Int) !=(p.ns:Int))=true:=by simp;omega
  simp[fs,mh,a]
 simp[di,this]
theorem G4{l:Rw}(b:l.n=p.ns)(a:g<p.ns)(h:inB (l.z g) r 1048576=false):mh p l r=true:=by
 unfold mh;rw[dv (k:=g) (by omega) (by rw[h];rfl),Bool.or_true]
theorem Iw{l:Rw}(a:l.n=p.ns)(h:∀g,g<p.ns->inB (l.z g) r 1048576=true):mh p l r=false:=by
 unfold mh;rw[cu λj b=>by rw[h j (by omega)];rfl,a];simp
theorem Sm(h:mh p s.si 0=true\/mh p s.so 0=true\/mh p s.sf (-1048576)=true):di p s=false:=by
 have:fs p s=true:=by
  unfold fs;rcases h with h|h|h<;>rw[h]<;>simp
 simp[di,this]
def Og(s:St)(g:Nat):Bool:=inB (s.si.z g) 0 1048576&&inB (s.so.z g) 0 1048576&&inB (s.sf.z g) (-1048576) 1048576
theorem adg(e:∀i,i<s.os.n->mf p (s.os.z i)=false)(m:gz s.hs.n s.hs.z=0)(j:∀i,i<s.hs.n->jf p s (s.hs.z i)=false)(k:∀i,i<s.ms.n->mp p (s.ms.z i)=false)
  (b:s.si.n=p.ns/\s.so.n=p.ns/\s.sf.n=p.ns) (f:∀g,g<p.ns->Og s g=true):di p s=true:=by
 have l:jo p s=false:=cu e;have d:gt p s=false:=by unfold gt;rw[m,cu j];rfl
 have o:kt p s=false:=cu k;have c:fs p s=false:=by
  have h:∀g,g<p.ns->(inB (s.si.z g) 0 1048576=true/\inB (s.so.z g) 0 1048576=true)/\inB (s.sf.z g) (-1048576) 1048576=true:=λg a=>by
   have:=f g a
   simpa[Og] using this
  unfold fs;rw[Iw b.1 λg a=>(h g a).1.1,Iw b.2.1 λg a=>(h g a).1.2,Iw b.2.2 λg a=>(h g a).2]
  rfl
 unfold di;rw[l,d,o,c]
 rfl
theorem I9(h:gz n z=0):ax n (db z)=false:=by
 cases a:ax n (db z)
 .rfl
 simp[gz,a] at h
theorem xu{k:Nat}{f:Nat->Bool}{b:Bool}(h:∀j,j<k->f j=b)(c:f k=b):∀j,j<k+1->f j=b:=λj d=>by
 by_cases a:j=k
 .rw[a];exact c
 exact h j (by omega)
theorem Wi(p:Pl)(s:St)(w:World)(hp:p.At w)(hs:s.At w)(h0:fa p s.on=0)(h1:gh s=false):
  Calls prog 50 #[p.val,s.val] w λe w'=>e = .returned (.bool (di p s))/\Below w.heap.size w w':=by
 obtain⟨M,hW,ci,X0⟩:=Jr w p s;have HC:=Hu hp hs ci X0;have HW:=hid hW;have HT:Hid (s.os.n<=4/\s.ms.n<=8/\(∀i,i<s.os.n->1<=(s.os.z i).ls.n/\(s.os.z i).ls.n<=3)):=by
  unfold gh at h1;simp only[Xxq,decide_eq_false_iff_not] at h1;refine⟨by omega,by omega,λi hi => ?_⟩;have:=dk h1.2 i hi;simp only[rb,Bool.not_eq_false'] at this;have:=au this;omega
 have leb:=hp.leb;have ak:=hp.capb;have les:=hp.les;have a7:=hp.caps;have os4:=HT.out.1;have ms8:=HT.out.2.1;clear hW X0 h0 h1 hp hs;unfold Pl.val St.val;go_enter func50,ntmps50;go_wp2_with fail;rw[HW.out]
 go_loopw [5] (λi A=>∃k:Nat,k<=s.os.n/\i = .int .i64 k/\(∀j,j<k->mf p (s.os.z j)=false)/\Below M.heap.size M A) (λi _=>s.os.n-(intOf i).toNat)
 case atStart=>exact⟨0,Qxz _,rfl,λj hj=>absurd hj (Qzq _),Below.refl _ _⟩
 obtain⟨i,hi,rfl,J,B⟩:=hrel;have HN:=hid J;clear J;obtain⟨X,D,r,d⟩:=HC.out wr B;obtain⟨⟨l1,Y,d1⟩,l2,S,c1,c2,c3,c4,c5,c6⟩:=X;by_cases y:i<s.os.n
 .obtain⟨b,o,W,hb,z0,z1,hl⟩:=r.os.ods i y;have q1:(0:Int)<=(i:Int):=by omega
  have ea:=(HT.out.2.2 i y);have cj:=hl.le;have a3:=hl.cap;unfold maxLen at a3;have HO:=hid W;have HE:Hid (mf p (s.os.z i)=(!inB (s.os.z i).k 0 2||ax (s.os.z i).ls.n (λj=>ki p ((s.os.z i).ls.z j)))):=rfl;rw[W] at c1;clear W hl r S c2 c3 c4 c5 c6 D;cases hk:inB (s.os.z i).k 0 2
  .have m:Hid (di p s=false):=Sl y (by rw[HE.out,hk];rfl)
   generalize (s.os.z i).k=KD at *
   go_wp2_with(go_at_call 23;refine ah (cg _ _ _ _) ?_);go_ret;exact⟨by rw[m.out];rfl,d⟩
  have bt:Hid (mf p (s.os.z i)=ax (s.os.z i).ls.n (λj=>ki p ((s.os.z i).ls.z j))):=by show mf p (s.os.z i)=_;rw[HE.out,hk];rfl
  clear HE
  generalize (s.os.z i).k=KD at *
  go_wp2_with(go_at_call 23;refine ah (cg _ _ _ _) ?_);clear hk z0 d z1 c1 Y d1 l1 l2 hb
  go_loopw [6] (λi0 A=>∃k:Nat,k<=(s.os.z i).ls.n/\i0 = .int .i64 k/\(∀j,j<k->ki p ((s.os.z i).ls.z j)=false)/\Below M.heap.size M A) (λi0 _=>(s.os.z i).ls.n-(intOf i0).toNat)
  case atStart=>exact⟨0,Qxz _,rfl,λj hj=>absurd hj (Qzq _),B⟩
  clear B;obtain⟨j,hj,rfl,J,B⟩:=hrel;have P:=hid J;clear J;obtain⟨X,D,r,d⟩:=HC.out wr B;obtain⟨⟨l1,Y,d1⟩,l2,S,c1,c2,c3,c4,c5,c6⟩:=X;obtain⟨b',o',W,hb,z0,z1,hl⟩:=r.os.ods i y;rw[HO.out] at W c1;simp only[Qkx,Qkz,and_true] at W;obtain⟨rfl,rfl⟩:=W;by_cases bu:j<(s.os.z i).ls.n;rotate_left
  .have HA:Hid (mf p (s.os.z i)=false):=by show mf p (s.os.z i)=false;rw[bt.out];exact cu λj' ec=>P.out j' (by omega)
   clear S c2 c3 c4 c5 c6 D r hl;go_wp2_with fail;go_roundw
   case rel=>exact⟨i+1,by omega,by go_num,xu HN.out HA.out,B⟩
   case measure=>simp[intOf];omega
  obtain⟨b2,o2,bs,cl,y0,y1,y2,y3⟩:=hl.hds j bu;have q2:(0:Int)<=(j:Int):=by omega
  have f:Hid (ki p ((s.os.z i).ls.z j)=true->di p s=false):=λh=>Sl y (by rw[bt.out];exact dv bu h);have u:Hid (ki p ((s.os.z i).ls.z j)=false->∀j',j'<j+1->ki p ((s.os.z i).ls.z j')=false):=λh=>xu P.out h;have t:Hid (ki p ((s.os.z i).ls.z j)=(!inB ((s.os.z i).ls.z j).o 0 ((p.ns:Int)-1) || !inB ((s.os.z i).ls.z j).l 1 200 || !inB ((s.os.z i).ls.z j).b 0 ((s.os.z i).ls.z j).l || !inB ((s.os.z i).ls.z j).n 0 ((s.os.z i).ls.z j).l)):=rfl;rw[bs] at z1;clear bs hl r D S c2 c3 c4 c5 c6 z0 P
  generalize ki p ((s.os.z i).ls.z j)=BL at *
  generalize (s.os.z i).ls.z j=v at *
  obtain⟨H,ai,G,F⟩:∃H,wr.alloc (.cells #[.int .i64 v.o,.int .i64 v.l,.int .i64 v.b,.int .i64 v.n] 59)=H/\Below M.heap.size M H/\Blk H wr.heap.size 59 4 (λj=>(#[.int .i64 v.o,.int .i64 v.l,.int .i64 v.b,.int .i64 v.n]:Array Value).getD j default):=⟨_,rfl,B.alloc B.size _,Blk.mk' rfl rfl⟩;obtain⟨B4,Q⟩:∃B4,wr.heap.size=B4:=⟨_,rfl⟩;rw[Q] at F;have HV:=qa2 ai Q;obtain⟨X,D,r,K⟩:=HC.out H G;clear ai Q X D r;have HY:Hid (∀A,Below H.heap.size H A->(A.cell? ⟨B4,1,none⟩=some (.int .i64 v.l)/\A.cell? ⟨B4,2,none⟩=some (.int .i64 v.b)/\A.cell? ⟨B4,3,none⟩=some (.int .i64 v.n)/\B4<A.heap.size)/\Below M.heap.size M A/\Below w.heap.size w A):=
   λA h=>⟨⟨(F.below h).k 1,(F.below h).k 2,(F.below h).k 3,(F.below h).lt⟩,G.trans (h.mono G.size),K.trans (h.mono K.size)⟩
  clear F G K d;go_wp2_with fail;rw[HV.out.1];refine(vn p v.o H les a7).mono ?_;rintro e w2 ⟨rfl,U⟩;rw[HV.out.2];obtain⟨⟨t1,t2,t3,l4⟩,am,d⟩:=HY.out w2 U;clear U HY HV y0 y1 y2 y3 z1 c1 Y d1 l1 l2 hb cl B;cases x:inB v.o 0 ((p.ns:Int)-1)
  .have m:Hid (di p s=false):=f.out (by rw[t.out,x];rfl);clear t f u x;go_wp2_with fail;go_ret;exact⟨by rw[m.out];rfl,d⟩
  cases E:inB v.l 1 200
  .have m:Hid (di p s=false):=f.out (by rw[t.out,x,E];rfl);clear t f u x;go_wp2_with(go_at_call 23;refine ah (cg _ _ _ _) ?_);go_ret;exact⟨by rw[m.out];rfl,d⟩
  cases L:inB v.b 0 v.l
  .have m:Hid (di p s=false):=f.out (by rw[t.out,x,E,L];rfl);clear t f u x;go_wp2_with(go_at_call 23;refine ah (cg _ _ _ _) ?_);go_ret;exact⟨by rw[m.out];rfl,d⟩
  cases k4:inB v.n 0 v.l
  .have m:Hid (di p s=false):=f.out (by rw[t.out,x,E,L,k4];rfl);clear t f u x;go_wp2_with(go_at_call 23;refine ah (cg _ _ _ _) ?_);go_ret;exact⟨by rw[m.out];rfl,d⟩
  have m:=u.out (by rw[t.out,x,E,L,k4];rfl);have an:Hid _:=m;clear t f u x m;go_wp2_with(go_at_call 23;refine ah (cg _ _ _ _) ?_);go_roundw
  case rel=>exact⟨j+1,by omega,by go_num,an.out,am⟩
  case measure=>simp[intOf];omega
 have ck:Hid (∀j,j<s.os.n->mf p (s.os.z j)=false):=λj hj=>HN.out j (by omega);clear HN;have bv:=hid r.hs;clear r D S c3 c4 c5 c6 d Y d1;go_wp2_with fail;refine(Oq s.hs wr bv.out).mono ?_;rintro e w2 ⟨rfl,U⟩;have B:=B.trans (U.mono B.size);clear U bv c1 c2 l1 l2 y hi;by_cases h0:gz s.hs.n s.hs.z=0;rotate_left
 .have m:Hid (di p s=false):=aa3 h0;obtain⟨X,D,r,d⟩:=HC.out w2 B;clear X D r;go_wp2_with fail;go_ret;exact⟨by rw[m.out];rfl,d⟩
 have H0:=hid h0;have d7:s.hs.n<=72:=yf (I9 h0);rw[h0];clear h0;go_wp2_with fail
 go_loopw [8] (λi A=>∃k:Nat,k<=s.hs.n/\i = .int .i64 k/\(∀j,j<k->jf p s (s.hs.z j)=false)/\Below M.heap.size M A) (λi _=>s.hs.n-(intOf i).toNat)
 case atStart=>exact⟨0,Qxz _,rfl,λj hj=>absurd hj (Qzq _),B⟩
 clear B;obtain⟨k,hk,rfl,J,B⟩:=hrel;have P:=hid J;clear J;obtain⟨X,D,r,d⟩:=HC.out wr B;obtain⟨⟨l1,Y,d1⟩,l2,S,c1,c2,c3,c4,c5,c6⟩:=X;by_cases y:k<s.hs.n
 .obtain⟨b,q,bz,hb,z0,z1,z2,z3⟩:=r.hs.hds k y;have aw:=cz (cd (I9 H0.out) k y);obtain⟨T,bh⟩:=Qzz aw.1.1;obtain⟨ml,bo⟩:=Qzz aw.2.1.1;have q4:(0:Int)<=(k:Int):=by omega
  have q2:(0:Int)<=(T:Int):=by omega
  have q3:(0:Int)<=(ml:Int):=by omega
  have f:Hid (jf p s (s.hs.z k)=true->di p s=false):=λh=>ack y h;have u:Hid (jf p s (s.hs.z k)=false->∀j',j'<k+1->jf p s (s.hs.z j')=false):=λh=>xu P.out h;have t:Hid (jf p s (s.hs.z k)=(!inB T 0 ((s.os.n:Int)-1) || !inB ml 0 (((s.os.z T).ls.n:Int)-1) || !inB (s.hs.z k).b 0 ((p.nb:Int)-1))):=by
   show jf p s (s.hs.z k)=_;unfold jf;rw[bh,bo]
   rfl
  rw[bh] at z0;rw[bo] at z1;rw[bz] at c2;clear bh bo aw P bz
  generalize jf p s (s.hs.z k)=BL at *
  generalize (s.hs.z k).b=HB at *
  generalize (s.hs.z k).n=bx at *
  obtain⟨H,ai,G,F,d8⟩:∃H,wr.alloc (.cells #[.int .i64 T,.int .i64 ml,.int .i64 HB,.int .i64 bx] 61)=H/\Below M.heap.size M H/\Blk H wr.heap.size 61 4 (λj=>(#[.int .i64 T,.int .i64 ml,.int .i64 HB,.int .i64 bx]:Array Value).getD j default)/\Below wr.heap.size wr H:=⟨_,rfl,B.alloc B.size _,Blk.mk' rfl rfl,brf.alloc nlr _⟩;have HV:=hid ai;obtain⟨X,cc,a4,K⟩:=HC.out H G;obtain⟨⟨m1,e0,e1⟩,m2,f0,f1,f2,f3,f4,f5,f6⟩:=X;have r0:=Qqq (F.k 0);have r1:=Qqq (F.k 1);have r2:=Qqq (F.k 2);have r3:=Qqq e0;have r4:=Qqq e1;clear e0 e1 f0 f2 f3 f4 f5 f6 cc ai;by_cases g1:T<s.os.n;rotate_left
  .have ct:(s.os.n:Int)<=(T:Int):=by omega
   have x:inB T 0 ((s.os.n:Int)-1)=false:=Y8 (by omega);have r5:=Qqq f1;have m:Hid (di p s=false):=f.out (by rw[t.out,x];rfl);clear t f u x f1 a4;go_wp2_with fail;rw[HV.out];refine Qxq (by kernel_rfl) (by kernel_rfl) ?_
   repeat(go_big_quiet_step(fail))
   refine Qqz ?_;intro _ al;obtain⟨⟨dq,bk⟩,ad⟩:=al;subst ad;go_wp2_with fail;go_ret;exact⟨by rw[m.out];rfl,K.trans ((Qxx _ _ _).mono K.size)⟩
  obtain⟨b1,o1,W,d5,-,y1,hl⟩:=a4.os.ods T g1;have cj:=hl.le;have a3:=hl.cap;have l3:=HT.out.2.2 T g1;unfold maxLen at a3;rw[W] at f1;have r5:=Qqq f1;have r6:=Qqq y1;have ct:¬(s.os.n:Int)<=(T:Int):=by omega
  have eb:¬s.os.n<=T:=by omega
  have x:inB T 0 ((s.os.n:Int)-1)=true:=bw (by omega);clear W hl a4 f1 y1
  generalize (s.os.z T).ls.n=LN at *
  generalize (s.os.z T).ls.a=LA at *
  generalize (s.os.z T).ls.c=LC at *
  by_cases g2:ml<LN;rotate_left
  .have d9:(LN:Int)<=(ml:Int):=by omega
   have E:inB ml 0 ((LN:Int)-1)=false:=Y8 (by omega);have m:Hid (di p s=false):=f.out (by rw[t.out,x,E];rfl);clear t f u x E;go_wp2_with fail;rw[HV.out];refine Qxq (by kernel_rfl) (by kernel_rfl) ?_
   repeat(go_big_quiet_step(fail))
   refine Qqz ?_;intro _ al;obtain⟨⟨dq,bk⟩,ad⟩:=al;subst ad;go_wp2_with fail;go_ret;exact⟨by rw[m.out];rfl,K.trans ((Qxx _ _ _).mono K.size)⟩
  have d6:¬LN<=ml:=by omega
  have E:inB ml 0 ((LN:Int)-1)=true:=bw (by omega);cases L:inB HB 0 ((p.nb:Int)-1)
  .have m:Hid (di p s=false):=f.out (by rw[t.out,x,E,L];rfl);clear t f u x E;go_wp2_with fail;rw[HV.out];refine Qxq (by kernel_rfl) (by kernel_rfl) ?_
   repeat(go_big_quiet_step((go_at_call 111;exact Xxz (Am p HB _ leb ak))))
   refine Qqz ?_;intro _ al;obtain⟨⟨dq,bk⟩,ad⟩:=al;subst ad;rw[L];go_wp2_with fail;go_ret;exact⟨by rw[m.out];rfl,K.trans ((Qxx _ _ _).mono K.size)⟩
  have m:=u.out (by rw[t.out,x,E,L];rfl);have an:Hid _:=m;clear t f u x E m;go_wp2_with fail;rw[HV.out];refine Qxq (by kernel_rfl) (by kernel_rfl) ?_
  repeat(go_big_quiet_step((go_at_call 111;exact Xxz (Am p HB _ leb ak))))
  refine Qqz ?_;intro _ al;obtain⟨⟨dq,bk⟩,ad⟩:=al;subst ad;rw[L];go_wp2_with fail;go_roundw
  case rel=>exact⟨k+1,by omega,by go_num,an.out,G.trans ((Qxx _ _ _).mono G.size)⟩
  case measure=>simp[intOf];omega
 have c9:Hid (∀j,j<s.hs.n->jf p s (s.hs.z j)=false):=λj hj=>P.out j (by omega);clear P;go_wp2_with fail;clear r D S c1 c2 c3 c4 c5 c6 Y d1 d l1 l2 y hk
 go_loopw [10] (λi A=>∃k:Nat,k<=s.ms.n/\i = .int .i64 k/\(∀j,j<k->mp p (s.ms.z j)=false)/\Below M.heap.size M A) (λi _=>s.ms.n-(intOf i).toNat)
 case atStart=>exact⟨0,Qxz _,rfl,λj hj=>absurd hj (Qzq _),B⟩
 clear B;obtain⟨k,hk,rfl,J,B⟩:=hrel;have P:=hid J;clear J;obtain⟨X,D,r,d⟩:=HC.out wr B;obtain⟨⟨l1,Y,d1⟩,l2,S,c1,c2,c3,c4,c5,c6⟩:=X;by_cases y:k<s.ms.n
 .obtain⟨b,q,b0,hb,z0,z1,z2,z3⟩:=r.ms.hds k y;have q4:(0:Int)<=(k:Int):=by omega
  have f:Hid (mp p (s.ms.z k)=true->di p s=false):=λh=>aco y h;have u:Hid (mp p (s.ms.z k)=false->∀j',j'<k+1->mp p (s.ms.z j')=false):=λh=>xu P.out h;have t:Hid (mp p (s.ms.z k)=(!inB (s.ms.z k).o 0 ((p.ns:Int)-1) || !inB (s.ms.z k).l 0 ((p.nb:Int)-1) || !inB (s.ms.z k).b 0 ((p.nb:Int)-1)||((s.ms.z k).l==(s.ms.z k).b) || !inB (s.ms.z k).n 1 200)):=rfl;rw[b0] at c3;clear b0 r D S c1 c2 c4 c5 c6 P
  generalize mp p (s.ms.z k)=BL at *
  generalize s.ms.z k=v at *
  obtain⟨H,ai,G,F⟩:∃H,wr.alloc (.cells #[.int .i64 v.o,.int .i64 v.l,.int .i64 v.b,.int .i64 v.n] 63)=H/\Below M.heap.size M H/\Blk H wr.heap.size 63 4 (λj=>(#[.int .i64 v.o,.int .i64 v.l,.int .i64 v.b,.int .i64 v.n]:Array Value).getD j default):=⟨_,rfl,B.alloc B.size _,Blk.mk' rfl rfl⟩;obtain⟨B4,Q⟩:∃B4,wr.heap.size=B4:=⟨_,rfl⟩;rw[Q] at F;have HV:=qa2 ai Q;have HY:Hid (∀A,Below H.heap.size H A->(A.cell? ⟨B4,1,none⟩=some (.int .i64 v.l)/\A.cell? ⟨B4,2,none⟩=some (.int .i64 v.b)/\A.cell? ⟨B4,3,none⟩=some (.int .i64 v.n)/\B4<A.heap.size)/\(w.heap.size<A.heap.size/\A.cell? ⟨w.heap.size,0,none⟩=some (.slice p.ab p.nb p.cb)/\A.cell? ⟨w.heap.size,1,none⟩=some (.slice p.sa p.ns p.cs))/\Below M.heap.size M A/\Below w.heap.size w A):=
   λA h=>⟨⟨(F.below h).k 1,(F.below h).k 2,(F.below h).k 3,(F.below h).lt⟩,(HC.out A (G.trans (h.mono G.size))).1.1,G.trans (h.mono G.size),(HC.out A (G.trans (h.mono G.size))).2.2.2⟩
  clear F G d ai Q;go_wp2_with fail;rw[HV.out.1];refine(vn p v.o H les a7).mono ?_;rintro e w2 ⟨rfl,U⟩;rw[HV.out.2];clear Y d1 l1 l2 hb B z0 z1 z2 z3 c3 HV;obtain⟨⟨t1,t2,t3,l4⟩,⟨l1,Y,d1⟩,am,d⟩:=HY.out w2 U;cases x:inB v.o 0 ((p.ns:Int)-1)
  .have m:Hid (di p s=false):=f.out (by rw[t.out,x];rfl);clear t f u x;go_wp2_with fail;go_ret;exact⟨by rw[m.out];rfl,d⟩
  go_wp2_with fail;refine(Am p v.l w2 leb ak).mono ?_;rintro e w3 ⟨rfl,ar⟩;have ar:=U.trans (ar.mono U.size);clear U t1 t2 t3 l4 l1 Y d1 am d;obtain⟨⟨t1,t2,t3,l4⟩,⟨l1,Y,d1⟩,am,d⟩:=HY.out w3 ar;cases E:inB v.l 0 ((p.nb:Int)-1)
  .have m:Hid (di p s=false):=f.out (by rw[t.out,x,E];rfl);clear t f u x E;go_wp2_with fail;go_ret;exact⟨by rw[m.out];rfl,d⟩
  go_wp2_with fail;refine(Am p v.b w3 leb ak).mono ?_;rintro e w4 ⟨rfl,Q⟩;have Q:=ar.trans (Q.mono ar.size);clear ar t1 t2 t3 l4 l1 Y d1 am d;obtain⟨⟨t1,t2,t3,l4⟩,⟨l1,Y,d1⟩,am,d⟩:=HY.out w4 Q;cases L:inB v.b 0 ((p.nb:Int)-1)
  .have m:Hid (di p s=false):=f.out (by rw[t.out,x,E,L];rfl);clear t f u x E L;go_wp2_with fail;go_ret;exact⟨by rw[m.out];rfl,d⟩
  cases k4:(v.l==v.b)
  .cases k5:inB v.n 1 200
   .have m:Hid (di p s=false):=f.out (by rw[t.out,x,E,L,k4,k5];rfl);clear t f u x E L;go_wp2_with(go_at_call 23;refine ah (cg _ _ _ _) ?_);go_ret;exact⟨by rw[m.out];rfl,d⟩
   have m:=u.out (by rw[t.out,x,E,L,k4,k5];rfl);have an:Hid _:=m;clear t f u x E L m;go_wp2_with(go_at_call 23;refine ah (cg _ _ _ _) ?_);go_roundw
   case rel=>exact⟨k+1,by omega,by go_num,an.out,am⟩
   case measure=>simp[intOf];omega
  have m:Hid (di p s=false):=f.out (by rw[t.out,x,E,L,k4];rfl);clear t f u x E L;go_wp2_with fail;go_ret;exact⟨by rw[m.out];rfl,d⟩
 have cw:Hid (∀j,j<s.ms.n->mp p (s.ms.z j)=false):=λj hj=>P.out j (by omega);clear P;by_cases n1:s.si.n=p.ns;rotate_left
 .have m:Hid (di p s=false):=acl n1;have m1:((s.si.n:Int) !=(p.ns:Int))=true:=by simp;omega
  clear r D S c1 c2 c5 c6;go_wp2_with fail;go_ret;exact⟨by rw[m.out];rfl,d⟩
 by_cases n2:s.so.n=p.ns;rotate_left
 .have m:Hid (di p s=false):=acm n2;have m1:((s.si.n:Int) !=(p.ns:Int))=false:=by simp[n1]
  have m2:((s.so.n:Int) !=(p.ns:Int))=true:=by simp;omega
  clear r D S c1 c2 c6 n1;go_wp2_with fail;go_ret;exact⟨by rw[m.out];rfl,d⟩
 by_cases n3:s.sf.n=p.ns;rotate_left
 .have m:Hid (di p s=false):=acn n3;have m1:((s.si.n:Int) !=(p.ns:Int))=false:=by simp[n1]
  have m2:((s.so.n:Int) !=(p.ns:Int))=false:=by simp[n2]
  have m3:((s.sf.n:Int) !=(p.ns:Int))=true:=by simp;omega
  clear r D S c1 c2 n1 n2;go_wp2_with fail;go_ret;exact⟨by rw[m.out];rfl,d⟩
 have V:=qa3 n1 n2 n3;have q1:=r.si.le;have q2:=r.si.cap;have q3:=r.so.le;have q4:=r.so.cap;have q5:=r.sf.le;have q6:=r.sf.cap;unfold maxLen at q2 q4 q6;rw[n1] at c4 q1;rw[n2] at c5 q3;rw[n3] at c6 q5;clear n1 n2 n3 r D S c1 c2 d;go_wp2_with fail;clear c3 c4 c5 c6 Y d1 l1 l2 y hk
 go_loopw [12] (λi A=>∃k:Nat,k<=p.ns/\i = .int .i64 k/\(∀j,j<k->Og s j=true)/\Below M.heap.size M A) (λi _=>p.ns-(intOf i).toNat)
 case atStart=>exact⟨0,Qxz _,rfl,λj hj=>absurd hj (Qzq _),B⟩
 clear B;obtain⟨g,hg,rfl,J,B⟩:=hrel;have P:=hid J;clear J;obtain⟨X,D,r,d⟩:=HC.out wr B;obtain⟨⟨l1,Y,d1⟩,l2,S,c1,c2,c3,c4,c5,c6⟩:=X;by_cases y:g<p.ns;rotate_left
 .have m:Hid (di p s=true):=adg ck.out H0.out c9.out cw.out V.out (λj hj=>P.out j (by omega));clear r D S c1 c2 c3 c4 c5 c6 P;go_wp2_with fail;go_ret;exact⟨by rw[m.out];rfl,d⟩
 obtain⟨b1,o1,e1,g1,z1⟩:=r.si.ints g (by rw[V.out.1];exact y);obtain⟨b2,o2,e2,g2,z2⟩:=r.so.ints g (by rw[V.out.2.1];exact y);obtain⟨b3,o3,e3,g3,z3⟩:=r.sf.ints g (by rw[V.out.2.2];exact y);have qq:(0:Int)<=(g:Int):=by omega
 rw[e1,V.out.1] at c4;rw[e2,V.out.2.1] at c5;rw[e3,V.out.2.2] at c6;have f:Hid (inB (s.si.z g) 0 1048576=false->di p s=false):=λh=>Sm (.inl (G4 V.out.1 y h));have u:Hid (inB (s.so.z g) 0 1048576=false->di p s=false):=λh=>Sm (.inr (.inl (G4 V.out.2.1 y h)));have a0:Hid (inB (s.sf.z g) (-1048576) 1048576=false->di p s=false):=λh=>Sm (.inr (.inr (G4 V.out.2.2 y h)));have a1:Hid (inB (s.si.z g) 0 1048576=true->inB (s.so.z g) 0 1048576=true->inB (s.sf.z g) (-1048576) 1048576=true->∀j',j'<g+1->Og s j'=true):=λh1 h2 h3=>xu P.out (by unfold Og;rw[h1,h2,h3];rfl);clear e1 e2 e3 r D S c1 c2 c3 P
 generalize s.si.z g=I1 at *
 generalize s.so.z g=I2 at *
 generalize s.sf.z g=I3 at *
 cases x:inB I1 0 1048576
 .have m:Hid (di p s=false):=f.out x;clear f u a0 a1;go_wp2_with(go_at_call 23;refine ah (cg _ _ _ _) ?_);go_ret;exact⟨by rw[m.out];rfl,d⟩
 cases E:inB I2 0 1048576
 .have m:Hid (di p s=false):=u.out E;clear f u a0 a1;go_wp2_with(go_at_call 23;refine ah (cg _ _ _ _) ?_);go_ret;exact⟨by rw[m.out];rfl,d⟩
 cases L:inB I3 (-1048576) 1048576
 .have m:Hid (di p s=false):=a0.out L;clear f u a0 a1;go_wp2_with(go_at_call 23;refine ah (cg _ _ _ _) ?_);go_ret;exact⟨by rw[m.out];rfl,d⟩
 have m:=a1.out x E L;have an:Hid _:=m;clear f u a0 a1 m;go_wp2_with(go_at_call 23;refine ah (cg _ _ _ _) ?_);go_roundw
 case rel=>exact⟨g+1,by omega,by go_num,an.out,B⟩
 case measure=>simp[intOf];omega
theorem aaa(h:4<s.os.n):gh s=true:=by
 have:decide (4<s.os.n)=true:=decide_eq_true h;simp[gh,this]
theorem abu(h:8<s.ms.n):gh s=true:=by
 have:decide (8<s.ms.n)=true:=decide_eq_true h;simp[gh,this]
theorem abt(hi:i<s.os.n)(h:inB (s.os.z i).ls.n 1 3=false):gh s=true:=by
 have:ax s.os.n (λi=>rb (s.os.z i))=true:=dv hi (by unfold rb;rw[h];rfl);simp[gh,this]
theorem ad3(f:¬4<s.os.n)(d:¬8<s.ms.n)(a:∀i,i<s.os.n->inB (s.os.z i).ls.n 1 3=true):gh s=false:=by
 have b:decide (4<s.os.n)=false:=decide_eq_false f;have c:decide (8<s.ms.n)=false:=decide_eq_false d;have e:ax s.os.n (λi=>rb (s.os.z i))=false:=cu λi hi=>by unfold rb;rw[a i hi];rfl
 unfold gh;rw[b,c,e]
 rfl
theorem abs(h:¬fa p s.on=0):ag p s=fa p s.on:=by unfold ag;rw[if_neg h]
theorem Pj(h:fa p s.on=0)(a:gh s=true):ag p s=2:=by unfold ag;rw[if_pos h,a];rfl
theorem acy(h:fa p s.on=0)(c:gh s=false)(a:di p s=false):ag p s=1:=by
 have e:(jo p s||gt p s||kt p s||fs p s)=true:=by
  cases b:(jo p s||gt p s||kt p s||fs p s)
  .rw[di,b] at a;cases a
  rfl
 unfold ag;rw[if_pos h,c,e];rfl
theorem Ui(h:fa p s.on=0)(c:gh s=false)(a:di p s=true):cx p s:=by
 have e:(jo p s||gt p s||kt p s||fs p s)=false:=by
  cases b:(jo p s||gt p s||kt p s||fs p s)
  .rfl
  rw[di,b] at a;cases a
 simp only[Xxq] at e;exact formed h c e.1.1.1 e.1.1.2 e.1.2 e.2
theorem adm(h:fa p s.on=0)(c:gh s=false)(a:di p s=true):ag p s=if ji p s then 0 else 7:=by
 have e:(jo p s||gt p s||kt p s||fs p s)=false:=by
  cases b:(jo p s||gt p s||kt p s||fs p s)
  .rfl
  rw[di,b] at a;cases a
 unfold ag ji;rw[if_pos h,c,e];cases (lq p s||jn s)<;>rfl
theorem ky(p:Pl)(s:St)(w:World)(U:p.At w)(hs:s.At w):
  Calls prog 19 #[p.val,s.val] w λe w'=>e = .returned (.int .i64 (ag p s))/\Below w.heap.size w w':=by
 obtain⟨G,hW,V,X0⟩:=Jr w p s;have D:=Hu U hs V X0;have HW:=hid hW;have ar:=hs.os.le;have S:=hs.os.cap;have au:=hs.ms.le;have Q:=hs.ms.cap;unfold maxLen at S Q;clear hW X0 U hs;unfold Pl.val St.val;go_enter func19,ntmps19;go_wp2_with fail;rw[HW.out];obtain⟨X,d,c,a⟩:=D.out G brf;refine(Kp p s.on G d c.on).mono ?_;rintro e w1 ⟨rfl,l⟩;clear X d c a HW;obtain⟨X,d,c,a⟩:=D.out w1 l;obtain⟨⟨v,t,u⟩,A,r,c1,c2,c3,c4,c5,c6⟩:=X;by_cases F:fa p s.on=0;rotate_left
 .have g:Hid (ag p s=fa p s.on):=abs F;clear d c;go_wp2_with fail;go_ret;exact⟨by rw[g.out];rfl,a⟩
 have m:=hid F;rw[F];clear F d c;by_cases Y:4<s.os.n
 .have g:Hid (ag p s=2):=Pj m.out (aaa Y);have K:(4:Int)<(s.os.n:Int):=by omega
  go_wp2_with fail;go_ret;exact⟨by rw[g.out];rfl,a⟩
 by_cases n2:8<s.ms.n
 .have g:Hid (ag p s=2):=Pj m.out (abu n2);have K:¬(4:Int)<(s.os.n:Int):=by omega
  have ak:(8:Int)<(s.ms.n:Int):=by omega
  go_wp2_with fail;go_ret;exact⟨by rw[g.out];rfl,a⟩
 have K:¬(4:Int)<(s.os.n:Int):=by omega
 have ak:¬(8:Int)<(s.ms.n:Int):=by omega
 go_wp2_with fail;clear r c1 c2 c3 c4 c5 c6 t u v A a
 go_loopw [6] (λi wk=>∃k:Nat,k<=s.os.n/\i = .int .i64 k/\(∀j,j<k->inB (s.os.z j).ls.n 1 3=true)/\Below G.heap.size G wk) (λi _=>s.os.n-(intOf i).toNat)
 case atStart=>exact⟨0,Qxz _,rfl,λj hj=>absurd hj (Qzq _),l⟩
 clear l;obtain⟨i,hi,rfl,L,l⟩:=hrel;have HN:=hid L;clear L;obtain⟨X,d,c,a⟩:=D.out wr l;obtain⟨⟨v,t,u⟩,A,r,c1,c2,c3,c4,c5,c6⟩:=X;by_cases M:i<s.os.n
 .obtain⟨b,o,P,hb,z0,z1,hl⟩:=c.os.ods i M;have qi:(0:Int)<=(i:Int):=by omega
  have y:Hid (inB (s.os.z i).ls.n 1 3=false->ag p s=2):=λh=>Pj m.out (abt M h);have x:Hid (inB (s.os.z i).ls.n 1 3=true->∀j,j<i+1->inB (s.os.z j).ls.n 1 3=true):=λh=>xu (f:=λj=>inB (s.os.z j).ls.n 1 3) HN.out h;rw[P] at c1;clear P hl d c r c2 c3 c4 c5 c6 t u z0
  generalize (s.os.z i).ls=LS at *
  cases k1:inB LS.n 1 3
  .have g:Hid (ag p s=2):=y.out k1;clear y x;go_wp2_with(go_at_call 23;refine ah (cg _ _ _ _) ?_);go_ret;exact⟨by rw[g.out];rfl,a⟩
  have g:=x.out k1;have W:Hid _:=g;clear y x g;go_wp2_with(go_at_call 23;refine ah (cg _ _ _ _) ?_);go_roundw
  case rel=>exact⟨i+1,by omega,by go_num,W.out,l⟩
  case measure=>simp[intOf];omega
 have q:Hid (gh s=false):=ad3 Y n2 λj hj=>HN.out j (by omega);go_wp2_with fail;refine(Wi p s wr d c m.out q.out).mono ?_;rintro e w2 ⟨rfl,J⟩;have l:=l.trans (J.mono l.size);clear d c a v t u A r c1 c2 c3 c4 c5 c6 J;obtain⟨X,d,c,a⟩:=D.out w2 l;obtain⟨⟨v,t,u⟩,A,r,c1,c2,c3,c4,c5,c6⟩:=X;cases B:di p s
 .have g:Hid (ag p s=1):=acy m.out q.out B;clear d c;go_wp2_with fail;go_ret;exact⟨by rw[g.out];rfl,a⟩
 have T:Hid (cx p s):=Ui m.out q.out B;have E:Hid (ag p s=if ji p s then 0 else 7):=adm m.out q.out B;clear B;go_wp2_with fail;refine(Xq p s w2 d c T.out).mono ?_;rintro e w3 ⟨rfl,H⟩;have a:=a.trans (H.mono a.size);clear d c v t u A r c1 c2 c3 c4 c5 c6 H;cases k3:ji p s
 .have g:Hid (ag p s=7):=by show ag p s=7;rw[E.out,k3];rfl
  clear E;go_wp2_with fail;go_ret;exact⟨by rw[g.out];rfl,a⟩
 have g:Hid (ag p s=0):=by show ag p s=0;rw[E.out,k3];rfl
 clear E;go_wp2_with fail;go_ret;exact⟨by rw[g.out];rfl,a⟩
theorem F6{bin good n:Int}(h:¬ag p s=0):ii p s bin good n=ag p s:=by unfold ii;rw[if_neg h]
theorem ww{bin good n:Int}(h:ag p s=0)(a:(inB bin 0 ((p.nb:Int)-1)&&inB good 0 ((p.ns:Int)-1)&&inB n 1 200)=false):ii p s bin good n=3:=by unfold ii;rw[if_pos h,a];rfl
theorem N7{n:Int}(h:ag p s=0)(e:b<p.nb)(d:g<p.ns)(a:inB n 1 200=true)(c:gj p s b<n*p.zs g):ii p s b g n=5:=by
 unfold ii;simp only[Int.toNat_natCast];rw[if_pos h,bw (by omega),bw (by omega),a,if_pos (by decide),if_pos c]
theorem N8{n:Int}(h:ag p s=0)(f:b<p.nb)(e:g<p.ns)(a:inB n 1 200=true)(d:¬gj p s b<n*p.zs g)(c:200<dx s b g+n\/1048576<s.si.z g+n):ii p s b g n=2:=by
 unfold ii;simp only[Int.toNat_natCast];rw[if_pos h,bw (by omega),bw (by omega),a,if_pos (by decide),if_neg d,if_pos c]
theorem S9{n:Int}(h:ag p s=0)(f:b<p.nb)(e:g<p.ns)(a:inB n 1 200=true)(d:¬gj p s b<n*p.zs g)(c:¬(200<dx s b g+n\/1048576<s.si.z g+n)):ii p s b g n=0:=by
 unfold ii;simp only[Int.toNat_natCast];rw[if_pos h,bw (by omega),bw (by omega),a,if_pos (by decide),if_neg d,if_neg c]
theorem Sq(f:cx p s)(d:b<p.nb): -30000<=gj p s b/\gj p s b<=1000:=by
 have c:b<s.on.n:=by rw[f.sh.n];exact d
 have e:=yh (z:=(s.on.r b).z) (zs:=p.zs) (n:=p.ns) (λj a=>⟨f.sh.num b c j a,f.sh.pl.sizes j a⟩) p.ns nlr;have g:=Fi f (b:Int) s.ms.n nlr;have room:0<=(p.zb b).room/\(p.zb b).room<=1000:=by
  have:=f.sh.pl.bins b d;simp only[rm,Xxq,Bool.not_eq_false'] at this;exact au this.1.1
 have:=f.ms8;have:=f.sh.pl.ns3;unfold gj;omega
theorem Lx(p:Pl)(s:St)(bin good n:Int)(w:World)(hp:p.At w)(hs:s.At w):
  Calls prog 53 #[p.val,s.val,.int .i64 bin,.int .i64 good,.int .i64 n] w λe w'=>∃s':St,e = .returned (.tuple #[s'.val,.int .i64 (ii p s bin good n)])/\s'.At w'/\ij (ii p s bin good n) (mt s bin.toNat good.toNat n) s'/\(ii p s bin good n=0->ai w.heap.size w' s')/\Below w.heap.size w w':=by
 obtain⟨W0,hW,ey,X0,Z0⟩:=Cd w p s;have HC:=Bb hp hs ey X0 Z0;have HW:=hid hW;have leb:=hp.leb;have bp:=hp.capb;have les:=hp.les;have bu:=hp.caps;have capb:=bp;have caps:=bu;have f2:=Z0.lt;unfold maxLen at capb caps;clear hW X0 Z0 hp hs;unfold Pl.val St.val;go_enter func53,ntmps53;go_wp2_with fail;rw[HW.out];obtain⟨X,q,i,f,l⟩:=HC.out W0 brf;refine(ky p s W0 q i).mono ?_;rintro e w1 ⟨rfl,m⟩;clear X q i f l HW;obtain⟨⟨⟨l1,d0,d1⟩,l2,F,c1,c2,c3,c4,c5,c6⟩,q,i,f,l⟩:=HC.out w1 m;by_cases h0:ag p s=0;rotate_left
 .have E:Hid (ii p s bin good n=ag p s):=F6 h0;clear q i F c1 c2 c3 c4 c5 c6;obtain⟨zl,ac,al,W,zc1,am,zc2,an,zc3,ak,zc4,S,zc5,T,Y⟩:=z7 l;go_wp2_with fail;exact ip results53 l f (by omega) E.out h0 rfl rfl rfl
 have H0:=hid h0;have H:Hid (cx p s):=(dp h0).fm;rw[h0];clear h0 F c1 c2 c3 c4 c5 c6 i;go_wp2_with fail;refine(Am p bin w1 leb bp).mono ?_;rintro e w2 ⟨rfl,J⟩;have m:=m.trans (J.mono m.size);clear l1 d0 d1 l2 q f l J;obtain⟨⟨⟨l1,d0,d1⟩,l2,F,c1,c2,c3,c4,c5,c6⟩,q,i,f,l⟩:=HC.out w2 m;clear F c1 c2 c3 c4 c5 c6 i;cases k1:inB bin 0 ((p.nb:Int)-1)
 .have E:Hid (ii p s bin good n=3):=ww H0.out (by rw[k1];rfl);clear k1;obtain⟨zl,ac,al,W,zc1,am,zc2,an,zc3,ak,zc4,S,zc5,T,Y⟩:=z7 l;go_wp2_with fail;exact ip results53 l f (by omega) E.out (by decide) rfl rfl rfl
 go_wp2_with fail;refine(vn p good w2 les bu).mono ?_;rintro e w3 ⟨rfl,J⟩;have m:=m.trans (J.mono m.size);clear l1 d0 d1 l2 q f l J;obtain⟨⟨⟨l1,d0,d1⟩,l2,F,c1,c2,c3,c4,c5,c6⟩,q,i,f,l⟩:=HC.out w3 m;cases k2:inB good 0 ((p.ns:Int)-1)
 .have E:Hid (ii p s bin good n=3):=ww H0.out (by rw[k1,k2];rfl);clear k1 k2 F c1 c2 c3 c4 c5 c6 i;obtain⟨zl,ac,al,W,zc1,am,zc2,an,zc3,ak,zc4,S,zc5,T,Y⟩:=z7 l;go_wp2_with fail;exact ip results53 l f (by omega) E.out (by decide) rfl rfl rfl
 cases k3:inB n 1 200
 .have E:Hid (ii p s bin good n=3):=ww H0.out (by rw[k1,k2,k3];rfl);clear k1 k2 F c1 c2 c3 c4 c5 c6 i;obtain⟨zl,ac,al,W,zc1,am,zc2,an,zc3,ak,zc4,S,zc5,T,Y⟩:=z7 l;go_wp2_with(go_at_call 23;refine ah (cg _ _ _ _) ?_);exact ip results53 l f (by omega) E.out (by decide) rfl rfl rfl
 obtain⟨b,rfl⟩:=Qzz (au k1).1;obtain⟨g,rfl⟩:=Qzz (au k2).1;have hb:b<p.nb:=by have:=(au k1).2;omega
 have x:g<p.ns:=by have:=(au k2).2;omega
 have hn:=au k3;have K3:=hid k3;have pz:=H.out.sh.pl.sizes g x;have fb:=Sq H.out hb;have mb:=Eg (a:=n) (b:=p.zs g) ⟨by omega,hn.2⟩ pz;have qb:(0:Int)<=(b:Int):=by omega
 have qg:(0:Int)<=(g:Int):=by omega
 obtain⟨bz,oz,b7,bt,y0⟩:=q.sizes g x;have t:=qa3 b7 q i;rw[b7] at d1;have r0:=Qqq d0;have r1:=Qqq d1;have r2:=Qqq y0;have s0:=Qqq F;have s1:=Qqq c1;have s2:=Qqq c2;have s3:=Qqq c3;have s4:=Qqq c4;have s5:=Qqq c5;have s6:=Qqq c6;have dj:Hid (∀D,p.At D->s.At D->Calls prog 115 #[.agg #[.slice p.ab p.nb p.cb,.slice (some ⟨bz,oz,none⟩) p.ns p.cs],.agg #[.slice s.on.a s.on.n s.on.c,.slice s.os.a s.os.n s.os.c,.slice s.hs.a s.hs.n s.hs.c,.slice s.ms.a s.ms.n s.ms.c,.slice s.si.a s.si.n s.si.c,.slice s.so.a s.so.n s.so.c,.slice s.sf.a s.sf.n s.sf.c],.int .i64 b] D λe w'=>e = .returned (.int .i64 (gj p s b))/\Below D.heap.size D w'):=λD h1 h2=>by
  have:=Mw p s b D h1 h2 H.out hb;rw[Pl.val,t.out.1] at this;exact this
 have ee:Hid (gj p s b<n*p.zs g->ii p s b g n=5):=λh=>N7 H0.out hb x K3.out h;have dd:Hid (¬gj p s b<n*p.zs g->(200<dx s b g+n\/1048576<s.si.z g+n)->ii p s b g n=2):=λh h2=>N8 H0.out hb x K3.out h h2;have e8:Hid (¬gj p s b<n*p.zs g->¬(200<dx s b g+n\/1048576<s.si.z g+n)->ii p s b g n=0):=λh h2=>S9 H0.out hb x K3.out h h2;clear k1 k2 b7 q i F c1 c2 c3 c4 c5 c6 d0 d1 y0
 generalize gj p s b=FR at *
 generalize p.zs g=PZ at *
 go_wp2_with(go_at_call 23;refine ah (cg _ _ _ _) ?_);refine Qxq (by kernel_rfl) (by kernel_rfl) ?_
 repeat(go_big_quiet_step((go_at_call 115;exact Xxz (dj.out _ (t.out.2.1.below (Qxx _ _ _)) (t.out.2.2.below (Qxx _ _ _))))))
 refine Qqz ?_;intro _ ad;obtain⟨⟨dq,y⟩,L⟩:=ad;subst L;have m:=m.trans ((Qxx w3 dq y).mono m.size);clear r0 r1 r2 s0 s1 s2 s3 s4 s5 s6 dj t f l l1 l2 bt
 generalize grow (redrawn w3 dq) y=w4 at *
 obtain⟨⟨⟨l1,d0,d1⟩,l2,F,c1,c2,c3,c4,c5,c6⟩,q,i,f,l⟩:=HC.out w4 m;by_cases h5:FR<n*PZ
 .have E:Hid (ii p s b g n=5):=ee.out h5;clear q i F c1 c2 c3 c4 c5 c6;obtain⟨zl,ac,al,W,zc1,am,zc2,an,zc3,ak,zc4,S,zc5,T,Y⟩:=z7 l;go_wp2_with fail;exact ip results53 l f (by omega) E.out (by decide) rfl rfl rfl
 have a0:b<s.on.n:=by rw[H.out.sh.n];exact hb
 obtain⟨bo,oo,b9,gb,y0,a3⟩:=i.on.rows b a0;have K:=H.out.sh.len b a0;obtain⟨br,gl,dm,gc,y1⟩:=a3.ints g (by rw[K];exact x);obtain⟨bi,oi,cy,ge,y2⟩:=i.si.ints g (by rw[H.out.sin];exact x);have v1:=a3.le;have v2:=a3.cap;have v3:=i.on.le;have v4:=i.on.cap;have v5:=i.si.le;have v6:=i.si.cap;have u1:=H.out.sh.num b a0 g x;have u2:=me (s:=s) (b:=b) (g:=g) H.out.moveN;have u3:=H.out.sib g x;have ms8:=H.out.ms8;have f9:g<s.si.n:=by rw[H.out.sin];exact x
 unfold maxLen at v2 v4 v6;have t:=qa3 i b9 cy;rw[dm,K] at y0;rw[K] at v1;rw[b9] at F;rw[cy] at c4;have s0:=Qqq F;have s1:=Qqq c1;have s2:=Qqq c2;have s3:=Qqq c3;have s4:=Qqq c4;have s5:=Qqq c5;have s6:=Qqq c6;have r1:=Qqq y0;have r2:=Qqq y1;have r3:=Qqq y2;have a1:Hid (∀D,s.At D->Calls prog 116 #[.agg #[.slice (some ⟨bo,oo,none⟩) s.on.n s.on.c,.slice s.os.a s.os.n s.os.c,.slice s.hs.a s.hs.n s.hs.c,.slice s.ms.a s.ms.n s.ms.c,.slice (some ⟨bi,oi,none⟩) s.si.n s.si.c,.slice s.so.a s.so.n s.so.c,.slice s.sf.a s.sf.n s.sf.c],.int .i64 b,.int .i64 g] D λe w'=>e = .returned (.int .i64 (bq s b g s.ms.n))/\Below D.heap.size D w'):=λD h=>by
  have:=Db p s b g D h H.out;rw[St.val,t.out.2.1,t.out.2.2] at this;exact this
 have dc:Hid (dx s b g=(s.on.r b).z g+bq s b g s.ms.n):=rfl;have cm:0<=bq s b g s.ms.n/\bq s b g s.ms.n<=1600:=by omega
 have ej:Hid (mt s b g n=setIn (setOn s b g ((s.on.r b).z g+n)) g (s.si.z g+n)):=rfl;clear b9 dm cy a3 K q i F c1 c2 c3 c4 c5 c6 y0 y1 y2 d0 d1 u2
 generalize bq s b g s.ms.n=CM at *
 generalize bj:(s.on.r b).z g=M at *
 have eg:=hid bj;clear bj
 generalize (s.on.r b).c=RC at *
 generalize bb:s.si.z g=Q at *
 have dr:=hid bb;clear bb;by_cases h6:200<M+CM+n
 .have E:Hid (ii p s b g n=2):=dd.out (by omega) (.inl (by rw[dc.out];exact h6));have d6:decide (200<M+CM+n)=true:=decide_eq_true h6;go_wp2_with fail;refine Qxq (by kernel_rfl) (by kernel_rfl) ?_
  repeat(go_big_quiet_step((go_at_call 116;exact Xxz (a1.out _ (t.out.1.below (Qxx _ _ _))))))
  refine Qqz ?_;intro _ ad;obtain⟨⟨dq,y⟩,L⟩:=ad;subst L;have m:=m.trans ((Qxx w4 dq y).mono m.size);clear r1 r2 r3 s0 s1 s2 s3 s4 s5 s6 a1 t f l l1 l2
  generalize grow (redrawn w4 dq) y=w5 at *
  obtain⟨-,-,-,f,l⟩:=HC.out w5 m;obtain⟨zl,ac,al,W,zc1,am,zc2,an,zc3,ak,zc4,S,zc5,T,Y⟩:=z7 l;go_wp2_with fail;exact ip results53 l f (by omega) E.out (by decide) rfl rfl rfl
 by_cases h7:1048576<Q+n
 .have E:Hid (ii p s b g n=2):=dd.out (by omega) (.inr h7);have d6:decide (200<M+CM+n)=false:=decide_eq_false h6;have d7:decide (1048576<Q+n)=true:=decide_eq_true h7;go_wp2_with fail;refine Qxq (by kernel_rfl) (by kernel_rfl) ?_
  repeat(go_big_quiet_step((go_at_call 116;exact Xxz (a1.out _ (t.out.1.below (Qxx _ _ _))))))
  refine Qqz ?_;intro _ ad;obtain⟨⟨dq,y⟩,L⟩:=ad;subst L;have m:=m.trans ((Qxx w4 dq y).mono m.size);clear r1 r2 r3 s0 s1 s2 s3 s4 s5 s6 a1 t f l l1 l2
  generalize grow (redrawn w4 dq) y=w5 at *
  obtain⟨-,-,-,f,l⟩:=HC.out w5 m;obtain⟨zl,ac,al,W,zc1,am,zc2,an,zc3,ak,zc4,S,zc5,T,Y⟩:=z7 l;go_wp2_with fail;exact ip results53 l f (by omega) E.out (by decide) rfl rfl rfl
 have E:Hid (ii p s b g n=0):=e8.out (by omega) (by rw[dc.out];omega);have d6:decide (200<M+CM+n)=false:=decide_eq_false h6;have d7:decide (1048576<Q+n)=false:=decide_eq_false h7;go_wp2_with fail;refine Qxq (by kernel_rfl) (by kernel_rfl) ?_
 repeat(go_big_quiet_step((go_at_call 116;exact Xxz (a1.out _ (t.out.1.below (Qxx _ _ _))))))
 refine Qqz ?_;intro _ ad;obtain⟨⟨dq,y⟩,L⟩:=ad;subst L;have m:=m.trans ((Qxx w4 dq y).mono m.size);clear r1 r2 r3 s0 s1 s2 s3 s4 s5 s6 a1 t f l l1 l2
 generalize grow (redrawn w4 dq) y=w5 at *
 obtain⟨⟨⟨l1,d0,d1⟩,l2,F,c1,c2,c3,c4,c5,c6⟩,q,i,f,l⟩:=HC.out w5 m;go_wp2_with fail;have d8:=hid f.size;refine(pd p s w5 i H.out).mono ?_;rintro e w6 ⟨o,rfl,u,cv,J⟩;have a2:b<o.on.n:=by rw[u.on.1];exact a0
 obtain⟨x1,x2⟩:=u.on.2 b a2;have K:(o.on.r b).n=p.ns:=by rw[x1];exact H.out.sh.len b a0
 have bj:(o.on.r b).z g=M:=by rw[x2 g (by rw[K];exact x)];exact eg.out
 have a8:o.si.n=p.ns:=by rw[u.si.1];exact H.out.sin
 have bb:o.si.z g=Q:=by rw[u.si.2 g (by rw[a8];exact x)];exact dr.out
 have bv:=hid a8;have cj:=hid u;have e3:Hid (af (setIn (setOn o b g (M+n)) g (Q+n)) (mt s b g n)):=by
  show af _ (mt s b g n);rw[ej.out];exact H5 (zd u _ _ _) _ _
 obtain⟨W7,dn,bm,K7⟩:=ab7 w6 o;have de:=hid dn;obtain⟨di,bk⟩:∃B,w6.heap.size=B:=⟨_,rfl⟩;have q6:=m.size;have q7:=J.size;have gf:W0.heap.size<=di:=by omega
 rw[bk] at K7;have b6:=hid bk;have dh:=(m.trans (J.mono m.size)).trans (bm.mono (m.trans (J.mono m.size)).size);have P:=ai.below cv bm;obtain⟨gg,ga,gA,g1,g2,gk⟩:=P.on;obtain⟨Gb,ra,rA,fe,e5,rk⟩:=P.rows b a2;obtain⟨Gi,ia,iA,ex,e6,U⟩:=P.si;have eq:=qa7 P ga ra ia rA iA K7;obtain⟨m7,p0,p1,p2,p3,p4,p5,p6⟩:=Boxed.of K7;rw[ga] at p0;rw[ia] at p4;have y0:=gk.cell (j:=b) a2;rw[ra,K] at y0;have y1:=rk.cell (j:=g) (by rw[K];exact x);rw[bj] at y1;have y2:=U.cell (j:=g) (by rw[a8];exact x);rw[bb] at y2;have t0:=Qqq p0;have t1:=Qqq y0;have t2:=Qqq y1;have v1:=g1;have v2:=g2;have v3:=fe;have v4:=e5;rw[K] at v3;unfold maxLen at v2 v4;unfold maxLen at e6;rw[a8] at ex;clear P cv gk rk U K7 bm dn bk p0 p1 p2 p3 p4 p5 p6 y0 y1 y2 ga ra ia q i F c1 c2 c3 c4 c5 c6 x1 x2 J l f bj bb u K a8;simp only[St.val];go_wp2_with fail;rw[de.out,b6.out];clear de b6;refine fh (λw'=>∃p:Regrown,w'=grow (redrawn W7 p.d) p.os) (List.range 17) [] [(true,17)] (Qqx (brf.drew)) ?_;rw[show List.range 17=[0,1,2,3,4,5,6,7,8,9,10,11,12,13,14,15,16] from rfl];simp only[du,Qyq,Xqq,Qyx,Qyz,Xqz,Xqx]
 repeat(go_big_quiet_step(fail))
 refine Qqz ?_;clear t0 t1 t2;refine⟨λ_ _ _ _=>True,Qjq _,Qjq _,Qjq _,λV G D hS _ _ => ?_⟩;have hX:=ae hS;obtain⟨hO,fa,cd,a9,gd,gh,hK⟩:=eq.out;have hO:=ai.below hO hX;have hK:=hK.below hX;obtain⟨Gq,A,_,_,_,rk⟩:=hO.rows b a2;rw[cd] at A;simp only[Qkx,Qkz,and_true] at A;subst A;have zl:=rk.lt;have zf:=rk.frozen g;have ez:Hid ((o.on.r b).n=p.ns):=(cj.out.on.2 b a2).1.trans (H.out.sh.len b a0);have zc:=rk.cell (j:=g) (by rw[ez.out];exact x);have q8:=hX.size;have dk:=dh.trans (hX.mono dh.size);have q9:=m.size;have be:=dk.setCell (p:=⟨Gb,g,none⟩) (by show W0.heap.size<=Gb;omega) (.int .i64 (M+n));have bc:=ai.setOn hO a2 cd g (M+n);have a6:=hK.other (a:=⟨Gb,g,none⟩) (Blk.ne2 hK rk (by decide)) (.int .i64 (M+n));have cc:=qa3 be bc a6;clear be bc a6 hO hK rk hX dk hS;simp only[ap];refine cf 17 rfl ?_;go_wp2_with fail;refine⟨gy.yes,?_⟩;refine NoPanic.normal ?_
 generalize D.setCell { block:=Gb,off:=g } (Value.int IntKind.i64 (M+n))=W9 at *
 clear zl zf zc;obtain⟨a7,ba,bd⟩:=cc.out;obtain⟨Gq,A,_,_,_,U⟩:=ba.si;rw[show(setOn o b g (M+n)).si.a=some ⟨Gi,0,none⟩ from a9] at A;simp only[Qkx,Qkz,and_true] at A;subst A;have y2:=U.cell (j:=g) (by show g<o.si.n;rw[bv.out];exact x);have p4:=bd.k 4;have cu:W9.cell? ⟨di,4,none⟩=some (.slice o.si.a o.si.n o.si.c):=p4;rw[a9,bv.out] at cu;have ev:Hid (o.si.z g=Q):=(cj.out.si.2 g (by rw[bv.out];exact x)).trans dr.out;have co:W9.cell? ⟨Gi,g,none⟩=some (.int .i64 (o.si.z g)):=y2;rw[ev.out] at co;have t0:=Qqq cu;have t1:=Qqq co;clear a7 ba bd U y2 p4 cu co;go_wp2_with fail;refine fh (λw'=>∃p:Regrown,w'=grow (redrawn W9 p.d) p.os) (List.range 11) [] [(true,11)] (Qqx (brf.drew)) ?_;rw[show List.range 11=[0,1,2,3,4,5,6,7,8,9,10] from rfl];simp only[du,Qyq,Xqq,Qyx,Qyz,Xqz,Xqx]
 repeat(go_big_quiet_step(fail))
 refine Qqz ?_;clear t0 t1;refine⟨λ_ _ _ _=>True,Qjq _,Qjq _,Qjq _,λV G es hS _ _ => ?_⟩;have hX:=ae hS;obtain⟨a7,ba,bd⟩:=cc.out;have hO:=ai.below ba hX;have hK:=bd.below hX;have cl:=a7.trans (hX.mono a7.size);obtain⟨Gq,A,_,_,_,U⟩:=hO.si;rw[show(setOn o b g (M+n)).si.a=some ⟨Gi,0,none⟩ from a9] at A;simp only[Qkx,Qkz,and_true] at A;subst A;have zl:=U.lt;have zf:=U.frozen g;have zc:=U.cell (j:=g) (by show g<o.si.n;rw[bv.out];exact x);have be:=cl.setCell (p:=⟨Gi,g,none⟩) (by show W0.heap.size<=Gi;omega) (.int .i64 (Q+n));have bc:=ai.setIn hO (show(setOn o b g (M+n)).si.a=some ⟨Gi,0,none⟩ from a9) g (Q+n);have a6:=hK.other (a:=⟨Gi,g,none⟩) (Blk.ne2 hK U (by decide)) (.int .i64 (Q+n));have dg:=qa3 be bc a6;clear be bc a6 hO hK U hX cl hS a7 ba bd cc;simp only[ap];refine cf 11 rfl ?_;go_wp2_with fail;refine⟨gy.yes,?_⟩;refine NoPanic.normal ?_
 generalize es.setCell { block:=Gi,off:=g } (Value.int IntKind.i64 (Q+n))=dl at *
 clear zl zf zc;obtain⟨bs,cw,cn⟩:=dg.out;obtain⟨_,_,_,f,l⟩:=HC.out dl bs;obtain⟨m8,p0,p1,p2,p3,p4,p5,p6⟩:=Boxed.of cn;obtain⟨zl,ac,al,W,zc1,am,zc2,an,zc3,ak,zc4,S,zc5,T,Y⟩:=z7 l;clear bs cw cn f l fa cd a9 hO hK;go_wp2_with fail;obtain⟨bs,cw,cn⟩:=dg.out;obtain⟨_,_,_,f,l⟩:=HC.out dl bs;have KZ:=s7b l o;have bt:=s7w (b:=w.heap.size+2) f (by omega) o;have ca:=s7o cw l o;unfold set7 at KZ bt ca;obtain⟨ff,e7,em,et,ef,fc,fg⟩:=df KZ;refine Xzq (v := .tuple #[(setIn (setOn o b g (M+n)) g (Q+n)).val,.int .i64 0]) (by simp[results,results53,go_sem,setIn,setOn,lp,St.val,ff,e7,em,et,ef,fc,fg]) rfl ?_;exact⟨setIn (setOn o b g (M+n)) g (Q+n),by rw[E.out];rfl,ca.at,⟨λ_=>e3.out,λh=>absurd E.out h⟩,λ_=>ca.mono d8.out,bt⟩
structure aaq(A:Nat)(w:World)(s:Sh):Prop where
 on:∃g,s.a=some ⟨g,0,none⟩/\A<=g/\s.n<=s.c/\s.c<=maxLen/\Blk w g 23 s.n (λi => .slice (s.r i).a (s.r i).n (s.r i).c)
 rows:∀i,i<s.n->j9 A w (s.r i)
 rapart:∀i j,i<j->j<s.n->(s.r i).a≠(s.r j).a
theorem Mz(p:Pl)(s:Sh)(bin good n:Int)(w:World)(W:p.At w)(hs:s.At w)(c:F3 p s bin good n=0):
  Calls prog 91 #[p.val,s.val,.int .i64 bin,.int .i64 good,.int .i64 n] w λe w'=>∃L:Sh,e = .returned (.tuple #[L.val,.int .i64 0])/\aaq w.heap.size w' L/\L.n=s.n/\(∀i,i<s.n->(L.r i).n=(s.r i).n/\∀j,j<(s.r i).n->(L.r i).z j=F4 s bin good n i j)/\Below w.heap.size w w':=by
 have E:Below w.heap.size w (w.alloc (.cells #[.slice p.ab p.nb p.cb,.slice p.sa p.ns p.cs] 25)):=(Below.refl w.heap.size w).alloc nlr _;simp only[Pl.val,Sh.val];have ar:=hs.le;have u:=hs.cap;have ad:=u;unfold maxLen at ad;have U:s.n<=maxLen:=Qzx ar u;have les:=W.les;have v:=W.caps;have aj:p.ns<=maxLen:=Qzx les v;have caps:=v;unfold maxLen at caps;go_enter func91,ntmps91;go_wp2_with fail;refine(ze p s _ (W.below E) (hs.below E)).mono ?_;rintro e w1 ⟨rfl,hB⟩;have d:=E.trans (hB.mono (by simp));have a5:w.heap.size<w1.heap.size:=by have:=hB.size;simp at this;omega
 have c1:w1.cell? ⟨w.heap.size,1,none⟩=some (.slice p.sa p.ns p.cs):=(hB.cell (p:=⟨w.heap.size,1,none⟩) (by simp)).trans (by simp);have K:fa p s=0:=by
  apply Classical.byContradiction
  intro K;have B:vt p s bin good=fa p s:=by simp[vt,K]
  simp[F3,B,K] at c
 have B:=F8 (bin:=bin) (good:=good) K;have y:inB bin 0 ((s.n:Int)-1)=true:=by
  cases y:inB bin 0 ((s.n:Int)-1)
  .simp[F3,B,y] at c
  rfl
 have J:inB good 0 ((p.ns:Int)-1)=true:=by
  cases J:inB good 0 ((p.ns:Int)-1)
  .simp[F3,B,y,J] at c
  rfl
 have V:vt p s bin good=0:=by simp[B,y,J]
 clear B;obtain⟨m,rfl⟩:=Qzz (au y).1;obtain⟨q,rfl⟩:=Qzz (au J).1;have A:m<s.n:=by have:=(au y).2;omega
 have hq:q<p.ns:=by have:=(au J).2;omega
 obtain⟨pl,hn,k,F⟩:=(wh K).2;have hz:=F m A q hq;have hl:=k m A;have h6:=pl.nb6;rw[<-hn] at h6;have am:Hid (∀i,i<s.n->1<=(s.r i).n/\(s.r i).n<=3):=λi hi=>by rw[k i hi];exact⟨pl.ns1,pl.ns3⟩
 have S:=hs.below d;have m1:(0:Int)<=(m:Int):=by omega
 have m2:(0:Int)<=(q:Int):=by omega
 obtain⟨b,o,ha,hb,z0,t⟩:=S.rows m A;obtain⟨b1,o1,Q,a3,y0⟩:=t.ints q (by omega);rw[Q] at z0;have aw:q<(s.r m).n:=by omega
 have a6:=t.le;have X:=t.cap;unfold maxLen at X;have h3:inB n (-((s.r m).z q)) (200-(s.r m).z q)=true:=by
  cases h3:inB n (-((s.r m).z q)) (200-(s.r m).z q)
  .simp[F3,V,h3] at c
  rfl
 clear c;clear pl hn k F Q t V hl;obtain⟨s0,P,sc,f⟩:=s;dsimp only at *;subst ha;go_wp2_with(first|(go_at_call_of 71 (Value.int .i64 (m:Int));refine ah (dm _ _ _ U) ?_)|(go_at_call_of 71 (Value.int .i64 (q:Int));refine ah (dm _ _ _ aj) ?_)|(go_at_call 63;refine ah (co _ _ _ _) ?_));refine(Ja ⟨some ⟨b,o,none⟩,P,sc,f⟩ w1 S h6 am.out).mono ?_;rintro e w2 ⟨g,G,C,rfl,hg,D,x,l,al⟩;dsimp only at D x l ⊢;obtain⟨g1,g2,g3,g4⟩:=x m A;have d0:=D.cell A;have d1:=g4.cell aw;have d2:=g4.frozen q;have a4:=au h3;unfold maxLen at g3;have ai:=d.trans (al.mono d.size);have an:w.heap.size<=G m:=by have:=d.size;omega
 have st:=ai.setCell (p:=⟨G m,q,none⟩) an (.int .i64 ((f m).z q+n));have HH:Hid _:=And.intro D (And.intro x l);clear D x l c1 y0 z0;go_wp2_with fail
 go_ret2
 obtain⟨D,x,l⟩:=HH.out;refine⟨⟨some ⟨g,0,none⟩,P,P,λi=>⟨some ⟨G i,0,none⟩,(f i).n,C i,λj=>F4 ⟨some ⟨b,o,none⟩,P,sc,f⟩ m q n i j⟩⟩,rfl,⟨⟨g,rfl,?_,Nat.le_refl _,U,?_⟩,?_,?_⟩,rfl,λi hi=>⟨rfl,λj M=>rfl⟩,st⟩
 .have:=d.size;omega
 .exact D.other (a:=⟨G m,q,none⟩) (by show g≠G m;omega) (.int .i64 ((f m).z q+n))
 rotate_left
 .intro i j ao M h;have:=l i j ao M;simp only[Qkx,Qkz,and_true] at h;omega
 intro i hi;have gi:=x i hi;refine⟨G i,rfl,?_,gi.2.1,gi.2.2.1,?_⟩
 .have:=d.size;omega
 by_cases H:i=m
 .subst H;refine(gi.2.2.2.set q (.int .i64 ((f i).z q+n))).congr λj M => ?_;by_cases T:j=q
  .subst T;simp[F4]
  simp[F4,T]
 have Y:G i≠G m:=by
  rcases Nat.lt_or_gt_of_ne H with h|h
  .have:=l i m h A;omega
  have:=l m i h hi;omega
 refine(gi.2.2.2.other (a:=⟨G m,q,none⟩) Y (.int .i64 ((f m).z q+n))).congr λj M => ?_;simp[F4,H]
theorem Ip(p:Pl)(s:St)(bin good:Nat)(w:World)(hs:s.At w)(f:cx p s)(aj:bin<p.nb)(T:good<p.ns):
  Calls prog 89 #[s.val,.int .i64 bin,.int .i64 good] w λe w'=>e = .returned (.int .i64 (dx s bin good))/\Below w.heap.size w w':=by
 obtain⟨d,W,E,J⟩:∃d,w.alloc (.cells s.cells 31)=d/\Below w.heap.size w d/\Blk d w.heap.size 31 7 (λj=>s.cells.getD j default):=⟨_,rfl,(Below.refl w.heap.size w).alloc nlr _,Blk.mk' rfl rfl⟩;have g:=hs.below E;have D:bin<s.on.n:=by rw[f.sh.n];exact aj
 obtain⟨bo,oo,t,V,y0,m⟩:=g.on.rows bin D;have B:=f.sh.len bin D;have av:=f.sh.num bin D good T;obtain⟨br,a6,aa,X,y1⟩:=m.ints good (by omega);have ag:=m.le;have L:=m.cap;have au:=g.on.le;have S:=g.on.cap;unfold maxLen at L S;rw[aa,B] at y0;rw[B] at ag;have c0:d.cell? ⟨w.heap.size,0,none⟩=some (.slice s.on.a s.on.n s.on.c):=J.k 0;rw[t] at c0;have l0:=J.lt;have a5:=hid t;have b0:(0:Int)<=(bin:Int):=by omega
 have g0:(0:Int)<=(good:Int):=by omega
 have am:Hid (∀k,k=s.ms.n->dx s bin good=(s.on.r bin).z good+bq s bin good k):=λk Q=>by subst Q;rfl
 have HC:Hid (∀x,Below d.heap.size d x->s.At x/\x.cell? ⟨w.heap.size,3,none⟩=some (.slice s.ms.a s.ms.n s.ms.c)/\w.heap.size<x.heap.size):=
  λx h=>⟨g.below h,(J.below h).k 3,(J.below h).lt⟩
 have a3:=g.ms.le;have M:=g.ms.cap;unfold maxLen at M;have m8:=f.ms8;have MB:Hid (∀k,k<=s.ms.n->0<=bq s bin good k/\bq s bin good k<=200*k):=λk Q=>me λj hj=>f.moveN j (by omega);have HW:Hid (w.alloc (.cells #[.slice (some ⟨bo,oo,none⟩) s.on.n s.on.c,.slice s.os.a s.os.n s.os.c,.slice s.hs.a s.hs.n s.hs.c,.slice s.ms.a s.ms.n s.ms.c,.slice s.si.a s.si.n s.si.c,.slice s.so.a s.so.n s.so.c,.slice s.sf.a s.sf.n s.sf.c] 31)=d):=by show _=d;rw[<-W,St.cells,t]
 have ac:=y0;have ae:=y1;have H:=V;have K:=X;rw[<-HW.out] at ac ae H K;simp only[St.val,t];clear J W m hs g;clear t aa c0 l0 y0 y1 V X B
 generalize (s.on.r bin).z good=ON at *
 go_enter func89,ntmps89;go_wp2_with fail;rw[HW.out];clear ac ae H K
 go_loopw [7,21] (λu i x=>∃k:Nat,k<=s.ms.n/\i = .int .i64 k/\u = .int .i64 (ON+bq s bin good k)/\Below d.heap.size d x) (λ_ i _=>s.ms.n-(intOf i).toNat)
 case atStart=>exact⟨0,Qxz _,rfl,by simp[bq],Below.refl _ _⟩
 obtain⟨k,Q,rfl,rfl,P⟩:=hrel;have m2:=MB.out k Q;obtain⟨Y,c3,af⟩:=HC.out wr P;by_cases F:k<s.ms.n;rotate_left
 .have ap:k=s.ms.n:=by omega
  subst ap;go_wp2_with fail;go_ret;exact⟨by rw[am.out _ rfl];rfl,E.trans (P.mono E.size)⟩
 obtain⟨b,q,ab,hb,z0,z1,z2,z3⟩:=Y.ms.hds k F;have m3:=f.moveN k F;have y:Hid (((s.ms.z k).b=bin/\(s.ms.z k).o=good->bq s bin good (k+1)=bq s bin good k+(s.ms.z k).n)/\(¬((s.ms.z k).b=bin/\(s.ms.z k).o=good)->bq s bin good (k+1)=bq s bin good k)):=⟨λh=>D7 h.1 h.2,z6⟩;have q4:(0:Int)<=(k:Int):=by omega
 rw[ab];obtain⟨W1,ad,G⟩:∃W1,wr.alloc (.cells #[.int .i64 (s.ms.z k).o,.int .i64 (s.ms.z k).l,.int .i64 (s.ms.z k).b,.int .i64 (s.ms.z k).n] 63)=W1/\Below d.heap.size d W1:=⟨_,rfl,P.alloc P.size _⟩;have HV:=hid ad;clear ab Y ad c3 af
 generalize bq s bin good k=U at *
 generalize (s.ms.z k).b=BB at *
 generalize (s.ms.z k).n=NN at *
 generalize (s.ms.z k).l=LL at *
 generalize (s.ms.z k).o=GD at *
 cases h1:(BB==(bin:Int))
 .have v:=y.out.2 (by simp at h1;omega);have A:=hid v;clear v y;go_wp2_with fail;rw[HV.out];go_roundw
  case rel=>exact⟨k+1,by omega,by go_num,by rw[A.out],G⟩
  case measure=>simp[intOf];omega
 cases h2:(GD==(good:Int))
 .have v:=y.out.2 (by simp at h2;omega);have A:=hid v;clear v y;go_wp2_with fail;rw[HV.out];go_roundw
  case rel=>exact⟨k+1,by omega,by go_num,by rw[A.out],G⟩
  case measure=>simp[intOf];omega
 have v:=y.out.1 ⟨by simpa using h1,by simpa using h2⟩;have A:=hid v;clear v y;go_wp2_with fail;rw[HV.out];go_roundw
 case rel=>exact⟨k+1,by omega,by go_num,by rw[A.out];congr 1;omega,G⟩
 case measure=>simp[intOf];omega
theorem ai.swap{B:Nat}{w0:World}{o:St}{r:Sh}(h:ai A w0 o)(f:Below w0.heap.size w0 w)(c:aaq B w r)(s:w0.heap.size<=B)(t:A<=B):ai A w ⟨r,o.os,o.hs,o.ms,o.si,o.so,o.sf⟩:=by
 have k:=ai.below h f;obtain⟨u,a1,-,-,-,n⟩:=h.si;obtain⟨y,j,-,-,-,m⟩:=h.so;obtain⟨x,p,-,-,-,l⟩:=h.sf;have q:=n.lt;have z:=m.lt;have v:=l.lt;refine⟨?_,λi hi => ?_,c.rapart,k.os,k.hs,k.ms,k.msr,k.si,k.so,k.sf,k.aio,k.aif,k.aof,λi hi => ?_⟩
 .obtain⟨g,b,e,d⟩:=c.on;exact⟨g,b,by omega,d⟩
 .obtain⟨g,b,e,d⟩:=c.rows i hi;exact⟨g,b,by omega,d⟩
 obtain⟨g,b,e,d⟩:=c.rows i hi;show(r.r i).a≠o.si.a/\(r.r i).a≠o.so.a/\(r.r i).a≠o.sf.a;rw[b,a1,j,p];simp only[ne_eq,Qkx,Qkz,and_true];omega
theorem Ox(p:Pl)(s:St)(bin good n:Int)(w:World)(hp:p.At w)(hs:s.At w):
  Calls prog 41 #[p.val,s.val,.int .i64 bin,.int .i64 good,.int .i64 n] w λe w'=>∃s':St,e = .returned (.tuple #[s'.val,.int .i64 (ii p s bin good n)])/\s'.At w'/\ij (ii p s bin good n) (mt s bin.toNat good.toNat n) s'/\(ii p s bin good n=0->ai w.heap.size w' s')/\Below w.heap.size w w':=by
 obtain⟨W0,hW,cy,X0,Z0⟩:=Cd w p s;have HC:=Bb hp hs cy X0 Z0;have HW:=hid hW;have leb:=hp.leb;have aw:=hp.capb;have les:=hp.les;have a0:=hp.caps;have capb:=aw;have caps:=a0;have ec:=Z0.lt;unfold maxLen at capb caps;clear hW X0 Z0 hp hs;unfold Pl.val St.val;go_enter func41,ntmps41;go_wp2_with fail;rw[HW.out];obtain⟨X,l,d,m,q⟩:=HC.out W0 brf;refine(lg p s W0 l d).mono ?_;rintro e w1 ⟨rfl,F⟩;clear X l d m q HW;obtain⟨⟨⟨l1,d0,d1⟩,l2,E,c1,c2,c3,c4,c5,c6⟩,l,d,m,q⟩:=HC.out w1 F;have az:p.nb<=maxLen:=Qzx leb aw;have ar:p.ns<=maxLen:=Qzx les a0;by_cases h0:ag p s=0;rotate_left
 .have A:Hid (ii p s bin good n=ag p s):=F6 h0;clear l d E c1 c2 c3 c4 c5 c6;obtain⟨zl,M,U,Q,zc1,V,zc2,W,zc3,T,zc4,K,zc5,L,S⟩:=z7 q;go_wp2_with fail;exact ip results41 q m (by omega) A.out h0 rfl rfl rfl
 have H0:=hid h0;have x:Hid (cx p s):=(dp h0).fm;rw[h0];clear h0;cases k1:inB bin 0 ((p.nb:Int)-1)
 .have A:Hid (ii p s bin good n=3):=ww H0.out (by rw[k1];rfl);clear E c1 c2 c3 c4 c5 c6 l d;obtain⟨zl,M,U,Q,zc1,V,zc2,W,zc3,T,zc4,K,zc5,L,S⟩:=z7 q;go_wp2_with(first|(go_at_call_of 71 (Value.int .i64 bin);refine ah (dm _ _ _ az) ?_)|(go_at_call_of 71 (Value.int .i64 good);refine ah (dm _ _ _ ar) ?_)|(go_at_call 63;refine ah (co _ _ _ _) ?_));exact ip results41 q m (by omega) A.out (by decide) rfl rfl rfl
 cases k2:inB good 0 ((p.ns:Int)-1)
 .have A:Hid (ii p s bin good n=3):=ww H0.out (by rw[k1,k2];rfl);clear E c1 c2 c3 c4 c5 c6 l d;obtain⟨zl,M,U,Q,zc1,V,zc2,W,zc3,T,zc4,K,zc5,L,S⟩:=z7 q;go_wp2_with(first|(go_at_call_of 71 (Value.int .i64 bin);refine ah (dm _ _ _ az) ?_)|(go_at_call_of 71 (Value.int .i64 good);refine ah (dm _ _ _ ar) ?_)|(go_at_call 63;refine ah (co _ _ _ _) ?_));exact ip results41 q m (by omega) A.out (by decide) rfl rfl rfl
 cases k3:inB n 1 200
 .have A:Hid (ii p s bin good n=3):=ww H0.out (by rw[k1,k2,k3];rfl);clear E c1 c2 c3 c4 c5 c6 l d;obtain⟨zl,M,U,Q,zc1,V,zc2,W,zc3,T,zc4,K,zc5,L,S⟩:=z7 q;go_wp2_with(first|(go_at_call_of 71 (Value.int .i64 bin);refine ah (dm _ _ _ az) ?_)|(go_at_call_of 71 (Value.int .i64 good);refine ah (dm _ _ _ ar) ?_)|(go_at_call 63;refine ah (co _ _ _ _) ?_));exact ip results41 q m (by omega) A.out (by decide) rfl rfl rfl
 obtain⟨b,rfl⟩:=Qzz (au k1).1;obtain⟨g,rfl⟩:=Qzz (au k2).1;have hb:b<p.nb:=by have:=(au k1).2;omega
 have G:g<p.ns:=by have:=(au k2).2;omega
 have hn:=au k3;have K3:=hid k3;have pz:=x.out.sh.pl.sizes g G;have fb:=Sq x.out hb;have mb:=Eg (a:=n) (b:=p.zs g) ⟨by omega,hn.2⟩ pz;have qb:(0:Int)<=(b:Int):=by omega
 have qg:(0:Int)<=(g:Int):=by omega
 have bl:=qa2 l d;clear l d;go_wp2_with(first|(go_at_call_of 71 (Value.int .i64 (b:Int));refine ah (dm _ _ _ az) ?_)|(go_at_call_of 71 (Value.int .i64 (g:Int));refine ah (dm _ _ _ ar) ?_)|(go_at_call 63;refine ah (co _ _ _ _) ?_));refine(Rm p s b w1 bl.out.1 bl.out.2).mono ?_;rintro e w2 ⟨rfl,H⟩;have F:=F.trans (H.mono F.size);clear l1 d0 d1 l2 E c1 c2 c3 c4 c5 c6 m q H bl;obtain⟨⟨⟨l1,d0,d1⟩,l2,E,c1,c2,c3,c4,c5,c6⟩,l,d,m,q⟩:=HC.out w2 F;obtain⟨bz,oz,bj,ay,y0⟩:=l.sizes g G;have aa:=qa3 bj l d;rw[bj] at d1;have bo:Hid (A7 p s b=gj p s b/\t9 p s b=0):=by
  have hu:vw p s.on b=0:=by unfold vw;rw[x.out.sh0];simp only[beq_self_eq_true,if_true];rw[bw (by have:=x.out.sh.n;omega)];rfl
  have e:t9 p s b=0:=by unfold t9;rw[if_pos H0.out,hu]
  exact⟨by unfold A7;rw[e,if_pos rfl];rfl,e⟩
 rw[bo.out.1,bo.out.2];have ct:Hid (gj p s b<n*p.zs g->ii p s b g n=5):=λh=>N7 H0.out hb G K3.out h;have bu:Hid (¬gj p s b<n*p.zs g->(200<dx s b g+n\/1048576<s.si.z g+n)->ii p s b g n=2):=λh h2=>N8 H0.out hb G K3.out h h2;have b5:Hid (¬gj p s b<n*p.zs g->¬(200<dx s b g+n\/1048576<s.si.z g+n)->ii p s b g n=0):=λh h2=>S9 H0.out hb G K3.out h h2;clear bo k1 k2 bj l d
 generalize gj p s b=FR at *
 generalize p.zs g=PZ at *
 by_cases h5:FR<n*PZ
 .have A:Hid (ii p s b g n=5):=ct.out h5;clear E c1 c2 c3 c4 c5 c6;obtain⟨zl,M,U,Q,zc1,V,zc2,W,zc3,T,zc4,K,zc5,L,S⟩:=z7 q;go_wp2_with fail;exact ip results41 q m (by omega) A.out (by decide) rfl rfl rfl
 have d5:decide (FR<n*PZ)=false:=by simp;omega
 have bb:=q.lt;clear q;go_wp2_with fail;refine(Ip p s b g w2 aa.out.2.2 x.out hb G).mono ?_;rintro e w3 ⟨rfl,H⟩;have F:=F.trans (H.mono F.size);clear l1 d0 d1 l2 E c1 c2 c3 c4 c5 c6 m H aa y0 bb ay d5;obtain⟨⟨⟨l1,d0,d1⟩,l2,E,c1,c2,c3,c4,c5,c6⟩,l,d,m,q⟩:=HC.out w3 F;obtain⟨bi,oi,B,c7,y2⟩:=d.si.ints g (by rw[x.out.sin];exact G);have v5:=d.si.le;have v6:=d.si.cap;unfold maxLen at v6;have u3:=x.out.sib g G;have em:g<s.si.n:=by rw[x.out.sin];exact G
 have ly:0<=dx s b g/\dx s b g<=1800:=by
  have a8:b<s.on.n:=by rw[x.out.sh.n];exact hb
  have u1:=x.out.sh.num b a8 g G;have u2:=me (s:=s) (b:=b) (g:=g) x.out.moveN;have ms8:=x.out.ms8;unfold dx;omega
 have aa:=qa3 l d B;have P:=bu.out h5;have ac:=b5.out h5;have cu:Hid (mt s b g n=setIn (setOn s b g ((s.on.r b).z g+n)) g (s.si.z g+n)):=rfl;clear bu b5;have cw:Hid (dx s b g=(s.on.r b).z g+bq s b g s.ms.n):=rfl;clear l d
 generalize dx s b g=LY at *
 generalize hSI:s.si.z g=D at *
 have d2:=hid hSI;clear hSI;rw[B] at c4;clear B;cases d6:decide (200-LY<n);rotate_left
 .have A:Hid (ii p s b g n=2):=P (Or.inl (by simp at d6;omega));clear P ac;obtain⟨zl,M,U,Q,zc1,V,zc2,W,zc3,T,zc4,K,zc5,L,S⟩:=z7 q;go_wp2_with fail;exact ip results41 q m (by omega) A.out (by decide) rfl rfl rfl
 cases d7:decide (1048576-D<n);rotate_left
 .have A:Hid (ii p s b g n=2):=P (Or.inr (by simp at d7;omega));clear P ac;obtain⟨zl,M,U,Q,zc1,V,zc2,W,zc3,T,zc4,K,zc5,L,S⟩:=z7 q;go_wp2_with fail;exact ip results41 q m (by omega) A.out (by decide) rfl rfl rfl
 have A:Hid (ii p s b g n=0):=ac (by simp at d6 d7;omega);have bd:F3 p s.on b g n=0:=by
  have a8:b<s.on.n:=by rw[x.out.sh.n];exact hb
  have hu:vt p s.on b g=0:=by rw[F8 x.out.sh0,bw (by omega),bw (by omega)];rfl
  have u1:=x.out.sh.num b a8 g G;have u2:=(me (s:=s) (b:=b) (g:=g) x.out.moveN).1;have ee:=cw.out;have hi:inB n (-((s.on.r b).z g)) (200-(s.on.r b).z g)=true:=bw (by simp at d6;omega);simp[F3,hu,hi]
 have cj:=hid bd;have bb:=q.lt;have bp:=ov p s w3 aa.out.2.1 x.out;rw[St.val,aa.out.2.2] at bp;have b1:Hid _:=bp;clear P ac bd bp q;go_wp2_with fail;refine Calls.mono b1.out ?_;rintro e u ⟨o,rfl,f,bm,H⟩;clear b1;have cc:=F.trans (H.mono F.size);have q3:=F.size;have cg:Hid (w.heap.size<=w3.heap.size):=Qzx (HC.out _ brf).2.2.2.1.size F.size;have q4:=H.size;have a1:Hid (o.si.n=p.ns):=f.si.1.trans x.out.sin;have dy:Hid (o.si.z g=D):=(f.si.2 g (by rw[a1.out];exact G)).trans d2.out;obtain⟨W5,b9,aj,K5⟩:=ab7 u o;have bc:=hid b9;have ax:=cc.trans (aj.mono cc.size);have av:=ai.below bm aj;clear l1 d0 d1 l2 E c1 c2 c3 c4 c5 c6 m aa bb c7 y2;obtain⟨⟨⟨l1,d0,d1⟩,l2,E,-⟩,l,d,m,-⟩:=HC.out W5 ax;have bx:=qa2 l d;have dk:=qa3 av K5 f;have b8:=l1;have cd:=l2;have ca:=d0;have cb:=d1;have bv:=E;rw[<-bc.out] at b8 cd ca cb bv;clear bm av K5 f l d m l1 l2 d0 d1 E b9;simp only[St.val];go_wp2_with fail;rw[bc.out];clear b8 cd ca cb bv bc;refine(Mz p s.on b g n W5 bx.out.1 bx.out.2.on cj.out).mono ?_;rintro e w6 ⟨r,rfl,hR,be,b7,an⟩;obtain⟨b2,K5,f⟩:=dk.out;have q5:=aj.size;have q6:=an.size;have bf:=ax.trans (an.mono ax.size);have bh:=ai.swap b2 an hR nlr (by omega);have K6:=K5.below an;obtain⟨J,B,iA,i1,i2,ik⟩:=bh.si;have br:=bh.box K6 0 (.slice r.a r.n r.c);have K7:=K6.set 0 (.slice r.a r.n r.c);have b0:=bf.setCell (p:=⟨u.heap.size,0,none⟩) (by show W0.heap.size<=u.heap.size;omega) (.slice r.a r.n r.c);obtain⟨eo,ae,-,-,-,jk⟩:=br.si;rw[show(⟨r,o.os,o.hs,o.ms,o.si,o.so,o.sf⟩:St).si=o.si from rfl] at B ae jk i1 i2;rw[B] at ae;simp only[Qkx,Qkz,and_true] at ae;subst ae;have b4:=br.setIn (show(⟨r,o.os,o.hs,o.ms,o.si,o.so,o.sf⟩:St).si.a=some ⟨J,0,none⟩ from B) g (D+n);have Y:=K7.other (a:=⟨J,g,none⟩) (Blk.ne2 K7 jk (by decide)) (.int .i64 (D+n));have ba:=b0.setCell (p:=⟨J,g,none⟩) (by show W0.heap.size<=J;omega) (.int .i64 (D+n));have ch:=qa3 ba b4 Y;have db:Hid (af (setIn ⟨r,o.os,o.hs,o.ms,o.si,o.so,o.sf⟩ g (D+n)) (mt s b g n)):=by
  show af _ (mt s b g n);rw[cu.out];refine H5 (s:=⟨r,o.os,o.hs,o.ms,o.si,o.so,o.sf⟩) (t:=setOn s b g ((s.on.r b).z g+n)) ⟨⟨be,λi hi => ?_⟩,f.os,f.hs,f.ms,f.si,f.so,f.sf⟩ _ _;have du:i<s.on.n:=by rw[<-be];exact hi
  have y:=b7 i du;show(r.r i).n=(if i=b then lp (s.on.r i) g ((s.on.r b).z g+n) else s.on.r i).n/\∀j,j<(r.r i).n->(r.r i).z j=(if i=b then lp (s.on.r i) g ((s.on.r b).z g+n) else s.on.r i).z j;by_cases bk:i=b
  .subst bk;rw[if_pos rfl];refine⟨y.1,λj hj => ?_⟩;rw[y.2 j (by rw[<-y.1];exact hj)];show F4 s.on i g n i j=if j=g then(s.on.r i).z g+n else(s.on.r i).z j;unfold F4;by_cases b3:j=g
   .subst b3;simp
   simp[b3]
  rw[if_neg bk];refine⟨y.1,λj hj => ?_⟩;rw[y.2 j (by rw[<-y.1];exact hj)];unfold F4;simp[bk]
 have z1:=K6.lt;have z2:=K6.frozen 0;have z3:=K6.k 0;have y4:(w6.setCell ⟨u.heap.size,0,none⟩ (.slice r.a r.n r.c)).cell? ⟨u.heap.size,4,none⟩=some (.slice o.si.a o.si.n o.si.c):=K7.k 4;rw[B,a1.out] at y4;have y5:(w6.setCell ⟨u.heap.size,0,none⟩ (.slice r.a r.n r.c)).cell? ⟨J,g,none⟩=some (.int .i64 (o.si.z g)):=jk.cell (j:=g) (by rw[a1.out];exact G);rw[dy.out] at y5;have y6:=jk.lt;have y7:=jk.frozen g;have y8:=K7.lt;have en:=hid B;rw[a1.out] at i1;unfold maxLen at i2;obtain⟨-,-,-,cq,b6⟩:=HC.out _ ba;have m8:=Y.lt;have e0:((w6.setCell ⟨u.heap.size,0,none⟩ (.slice r.a r.n r.c)).setCell ⟨J,g,none⟩ (.int .i64 (D+n))).cell? ⟨u.heap.size,0,none⟩=some (.slice r.a r.n r.c):=Y.k 0;have e1:((w6.setCell ⟨u.heap.size,0,none⟩ (.slice r.a r.n r.c)).setCell ⟨J,g,none⟩ (.int .i64 (D+n))).cell? ⟨u.heap.size,1,none⟩=some (.slice o.os.a o.os.n o.os.c):=Y.k 1;have e2:((w6.setCell ⟨u.heap.size,0,none⟩ (.slice r.a r.n r.c)).setCell ⟨J,g,none⟩ (.int .i64 (D+n))).cell? ⟨u.heap.size,2,none⟩=some (.slice o.hs.a o.hs.n o.hs.c):=Y.k 2;have e3:((w6.setCell ⟨u.heap.size,0,none⟩ (.slice r.a r.n r.c)).setCell ⟨J,g,none⟩ (.int .i64 (D+n))).cell? ⟨u.heap.size,3,none⟩=some (.slice o.ms.a o.ms.n o.ms.c):=Y.k 3;have e4:((w6.setCell ⟨u.heap.size,0,none⟩ (.slice r.a r.n r.c)).setCell ⟨J,g,none⟩ (.int .i64 (D+n))).cell? ⟨u.heap.size,4,none⟩=some (.slice o.si.a o.si.n o.si.c):=Y.k 4;have e5:((w6.setCell ⟨u.heap.size,0,none⟩ (.slice r.a r.n r.c)).setCell ⟨J,g,none⟩ (.int .i64 (D+n))).cell? ⟨u.heap.size,5,none⟩=some (.slice o.so.a o.so.n o.so.c):=Y.k 5;have e6:((w6.setCell ⟨u.heap.size,0,none⟩ (.slice r.a r.n r.c)).setCell ⟨J,g,none⟩ (.int .i64 (D+n))).cell? ⟨u.heap.size,6,none⟩=some (.slice o.sf.a o.sf.n o.sf.c):=Y.k 6;obtain⟨zl,M,U,Q,zc1,V,zc2,W,zc3,T,zc4,K,zc5,L,S⟩:=z7 b6;clear hR be b7 b2 K5 K6 K7 Y bh br b4 b0 ba an bf ik jk f B ax aj cq b6;simp only[Sh.val];go_wp2_with fail;obtain⟨dj,dz,el⟩:=ch.out;obtain⟨_,_,_,m,q⟩:=HC.out _ dj;have KZ:=nl q (.slice r.a r.n r.c) (.slice o.os.a o.os.n o.os.c) (.slice o.hs.a o.hs.n o.hs.c) (.slice o.ms.a o.ms.n o.ms.c) (.slice o.si.a o.si.n o.si.c) (.slice o.so.a o.so.n o.so.c) (.slice o.sf.a o.sf.n o.sf.c);have ay:=j7 (b:=w.heap.size+2) m (by omega) (.slice r.a r.n r.c) (.slice o.os.a o.os.n o.os.c) (.slice o.hs.a o.hs.n o.hs.c) (.slice o.ms.a o.ms.n o.ms.c) (.slice o.si.a o.si.n o.si.c) (.slice o.so.a o.so.n o.so.c) (.slice o.sf.a o.sf.n o.sf.c);have bn:=ai.set7 dz q (.slice r.a r.n r.c) (.slice o.os.a o.os.n o.os.c) (.slice o.hs.a o.hs.n o.hs.c) (.slice o.ms.a o.ms.n o.ms.c) (.slice o.si.a o.si.n o.si.c) (.slice o.so.a o.so.n o.so.c) (.slice o.sf.a o.sf.n o.sf.c);unfold set7 at KZ ay bn;obtain⟨dv,dh,dc,dq,cv,dn,dw⟩:=df KZ;refine Xzq (v := .tuple #[(setIn ⟨r,o.os,o.hs,o.ms,o.si,o.so,o.sf⟩ g (D+n)).val,.int .i64 0]) (by simp[results,results41,go_sem,setIn,lp,St.val,dv,dh,dc,dq,cv,dn,dw]) rfl ?_;exact⟨setIn ⟨r,o.os,o.hs,o.ms,o.si,o.so,o.sf⟩ g (D+n),by rw[A.out];rfl,bn.at,⟨λ_=>db.out,λh=>absurd A.out h⟩,λ_=>bn.mono cg.out,ay⟩
def uq(p:Pl)(x:Hd):Bool := !(inB x.o 0 ((p.ns:Int)-1)) || !(inB x.l 1 200)
def py(x:Hd):Bool:=x.b !=0||x.n !=0
def g9(p:Pl)(s:St)(l:Hs):Int :=
 if ag p s=0 then(if s.os.n=4\/¬(1<=l.n/\l.n<=3) then 2 else if ax l.n (λj=>uq p (l.z j)) then 3 else if ax l.n (λj=>py (l.z j)) then 1 else 0) else ag p s
def ma(s:St)(l:Hs):St:=⟨s.on,⟨s.os.a,s.os.n+1,s.os.c,λi=>if i=s.os.n then ⟨0,l⟩ else s.os.z i⟩,s.hs,s.ms,s.si,s.so,s.sf⟩
theorem D9{l:Hs}(h:¬ag p s=0):g9 p s l=ag p s:=by unfold g9;rw[if_neg h]
theorem zv{l:Hs}(h:ag p s=0)(a:s.os.n=4\/¬(1<=l.n/\l.n<=3)):g9 p s l=2:=by unfold g9;rw[if_pos h,if_pos a]
theorem D8{l:Hs}(h:ag p s=0)(b:¬(s.os.n=4\/¬(1<=l.n/\l.n<=3)))(a:ax l.n (λj=>uq p (l.z j))=true):g9 p s l=3:=by unfold g9;rw[if_pos h,if_neg b,if_pos a]
theorem Fy{l:Hs}(h:ag p s=0)(c:¬(s.os.n=4\/¬(1<=l.n/\l.n<=3)))(b:¬ax l.n (λj=>uq p (l.z j))=true)(a:ax l.n (λj=>py (l.z j))=true):g9 p s l=1:=by unfold g9;rw[if_pos h,if_neg c,if_neg b,if_pos a]
theorem P2{l:Hs}(h:ag p s=0)(c:¬(s.os.n=4\/¬(1<=l.n/\l.n<=3)))(b:¬ax l.n (λj=>uq p (l.z j))=true)(a:¬ax l.n (λj=>py (l.z j))=true):g9 p s l=0:=by unfold g9;rw[if_pos h,if_neg c,if_neg b,if_neg a]
theorem Vk(B:Nat)(p:Pl)(x:Hd)(w:World)(les:p.ns<=p.cs)(caps:p.cs<=maxLen)(f:B<w.heap.size)(c1:w.cell? ⟨B,1,none⟩=some (.slice p.sa p.ns p.cs)):
  Calls prog 92 #[x.val,.pointer (some ⟨B,0,none⟩)] w λe d=>e = .returned (.bool (uq p x))/\Below w.heap.size w d:=by
 have c:p.ns<=maxLen:=Qzx les caps;have a:Below w.heap.size w (w.alloc (.cells #[.int .i64 x.o,.int .i64 x.l,.int .i64 x.b,.int .i64 x.n] 59)):=(Below.refl w.heap.size w).alloc nlr _;have h:=(a.cell (p:=⟨B,1,none⟩) f).trans c1;have g:B<(w.alloc (.cells #[.int .i64 x.o,.int .i64 x.l,.int .i64 x.b,.int .i64 x.n] 59)).heap.size:=by have:=a.size;omega
 unfold uq Hd.val;clear c1;unfold maxLen at caps;cases i:inB x.o 0 ((p.ns:Int)-1)
 all_goals
  go_enter func92,ntmps92;go_wp2_with(first|(go_at_call 71;refine ah (dm _ _ _ c) ?_)|(go_at_call 63;refine ah (co _ _ _ _) ?_));go_ret;exact⟨by simp,a⟩
theorem Vl(x:Hd)(w:World):
  Calls prog 93 #[x.val] w λe c=>e = .returned (.bool (py x))/\Below w.heap.size w c:=by
 have a:Below w.heap.size w (w.alloc (.cells #[.int .i64 x.o,.int .i64 x.l,.int .i64 x.b,.int .i64 x.n] 59)):=(Below.refl w.heap.size w).alloc nlr _;unfold py Hd.val;cases d:(x.b !=0)
 all_goals
  go_enter func93,ntmps93;go_wp2_with fail;go_ret;exact⟨by simp,a⟩
theorem ai.orders{B:Nat}{j:World}{os:Os}(h:ai A w s)(f:qn B 57 w j)(k:kq A j os):ai A j ⟨s.on,os,s.hs,s.ms,s.si,s.so,s.sf⟩:=by
 refine⟨?_,λi hi=>(h.rows i hi).grew f (by decide),h.rapart,k,h.hs.grew f (by decide),h.ms.grew f (by decide),h.msr.grew f (by decide),h.si.grew f (by decide),h.so.grew f (by decide),h.sf.grew f (by decide),h.aio,h.aif,h.aof,h.ari⟩;obtain⟨g,a,b,c,d,e⟩:=h.on;exact⟨g,a,b,c,d,f.blk e (by decide)⟩
theorem Ni{o:St}{l b:Hs}{a:Option Addr}(h:af o s)(e:b.n=l.n)(f:∀j,j<l.n->b.z j=l.z j):af ⟨o.on,⟨a,o.os.n+1,c,mr o.os ⟨0,b⟩⟩,o.hs,o.ms,o.si,o.so,o.sf⟩ (ma s l):=by
 have p:o.os.n=s.os.n:=h.os.1;refine⟨h.on,⟨by show o.os.n+1=s.os.n+1;omega,λi hi => ?_⟩,h.hs,h.ms,h.si,h.so,h.sf⟩;have m:i<o.os.n+1:=hi;show(mr o.os ⟨0,b⟩ i).k=(if i=s.os.n then(⟨0,l⟩:Od) else s.os.z i).k/\(mr o.os ⟨0,b⟩ i).ls.n=(if i=s.os.n then(⟨0,l⟩:Od) else s.os.z i).ls.n/\∀j,j<(mr o.os ⟨0,b⟩ i).ls.n->(mr o.os ⟨0,b⟩ i).ls.z j=(if i=s.os.n then(⟨0,l⟩:Od) else s.os.z i).ls.z j;unfold mr;by_cases d:i=s.os.n
 .rw[if_pos (by omega),if_pos d];exact⟨rfl,e,λj g=>f j (by rw[<-e];exact g)⟩
 rw[if_neg (by omega),if_neg d];exact h.os.2 i (by omega)
theorem Rl(p:Pl)(s:St)(l:Hs)(w:World)(hp:p.At w)(hs:s.At w)(hl:l.At w):
  Calls prog 42 #[p.val,s.val,l.val] w λe w'=>∃r:St,e = .returned (.tuple #[r.val,.int .i64 (g9 p s l)])/\r.At w'/\ij (g9 p s l) (ma s l) r/\(g9 p s l=0->ai w.heap.size w' r)/\Below w.heap.size w w':=by
 obtain⟨W0,hW,al,X0,Z0⟩:=Cd w p s;have HC:Hid (∀f,Below W0.heap.size W0 f->lx f w.heap.size (w.heap.size+1) p s/\p.At f/\s.At f/\Below w.heap.size w f/\Blk f (w.heap.size+2) 31 7 (λ_ => .slice .none 0 0)/\l.At f):=λf h=>⟨X0.below h,(hp.below al).below h,(hs.below al).below h,al.trans (h.mono al.size),Z0.below h,(hl.below al).below h⟩;have HW:=hid hW;have leb:=hp.leb;have b4:=hp.capb;have les:=hp.les;have a8:=hp.caps;have capb:=b4;have caps:=a8;have ed:=Z0.lt;unfold maxLen at capb caps;have ca:=hl.le;have ac:=hl.cap;have cw:=ac;unfold maxLen at cw;clear hW X0 Z0 hp hs hl;unfold Pl.val St.val Hs.val;go_enter func42,ntmps42;go_wp2_with fail;rw[HW.out];obtain⟨X,F,A,y,D,t⟩:=HC.out W0 brf;refine(lg p s W0 F A).mono ?_;rintro e w1 ⟨rfl,H⟩;clear X F A y D t HW;obtain⟨⟨⟨l1,d0,d1⟩,l2,c0,c1,c2,c3,c4,c5,c6⟩,F,A,y,D,t⟩:=HC.out w1 H;by_cases h0:ag p s=0;rotate_left
 .have W:Hid (g9 p s l=ag p s):=D9 h0;clear F A t c0 c1 c2 c3 c4 c5 c6;obtain⟨zl,am,aw,an,zc1,ay,zc2,a1,zc3,ar,zc4,aj,zc5,ak,ao⟩:=z7 D;go_wp2_with fail;exact ip results42 D y (by omega) W.out h0 rfl rfl rfl
 have H0:=hid h0;have HF:Hid (cx p s):=(dp h0).fm;rw[h0];clear h0;by_cases k1:s.os.n=4
 .have W:Hid (g9 p s l=2):=zv H0.out (Or.inl k1);have q1:((s.os.n:Int)==4)=true:=by rw[k1];rfl
  clear k1;clear F A t;obtain⟨zl,am,aw,an,zc1,ay,zc2,a1,zc3,ar,zc4,aj,zc5,ak,ao⟩:=z7 D;go_wp2_with(go_at_call 63;refine ah (co _ _ _ _) ?_);exact ip results42 D y (by omega) W.out (by decide) rfl rfl rfl
 have q1:((s.os.n:Int)==4)=false:=by simp;omega
 cases k2:inB l.n 1 3
 .have W:Hid (g9 p s l=2):=zv H0.out (Or.inr (by have:=Qc k2;omega));clear k1;clear F A t;obtain⟨zl,am,aw,an,zc1,ay,zc2,a1,zc3,ar,zc4,aj,zc5,ak,ao⟩:=z7 D;go_wp2_with(go_at_call 63;refine ah (co _ _ _ _) ?_);exact ip results42 D y (by omega) W.out (by decide) rfl rfl rfl
 have ev:=au k2;have HM:Hid (¬(s.os.n=4\/¬(1<=l.n/\l.n<=3))):=by show ¬_;omega
 clear k1;have T:=hid t;clear D F A t;go_wp2_with(go_at_call 63;refine ah (co _ _ _ _) ?_);refine(M7 92 #[.pointer (some ⟨w.heap.size,0,none⟩)] (λj=>uq p (l.z j)) _ _ _ _ ca ac l.z T.out.hds (enters_of func92 (by kernel_rfl) rfl) (λi Q _ h=>Vk w.heap.size p _ Q les a8 (Xzx l1 h.size) ((h.cell (p:=⟨w.heap.size,1,none⟩) l1).trans d1))).mono ?_;rintro e Q ⟨rfl,E⟩;have H:=H.trans (E.mono H.size);clear l1 d0 d1 l2 c0 c1 c2 c3 c4 c5 c6 y E T q1 k2;obtain⟨⟨⟨l1,d0,d1⟩,l2,c0,c1,c2,c3,c4,c5,c6⟩,F,A,y,D,t⟩:=HC.out Q H;cases k3:ax l.n (λj=>uq p (l.z j));rotate_left
 .have W:Hid (g9 p s l=3):=D8 H0.out HM.out k3;clear k3;clear F A t;obtain⟨zl,am,aw,an,zc1,ay,zc2,a1,zc3,ar,zc4,aj,zc5,ak,ao⟩:=z7 D;go_wp2_with fail;exact ip results42 D y (by omega) W.out (by decide) rfl rfl rfl
 have K3:Hid (¬ax l.n (λj=>uq p (l.z j))=true):=by show ¬_;rw[k3];decide
 clear k3;have T:=hid t;clear D F A t;go_wp2_with fail;refine(M7 93 #[] (λj=>py (l.z j)) _ _ _ _ ca ac l.z T.out.hds (enters_of func93 (by kernel_rfl) rfl) (λi Q _ h=>by rw[Array.append_empty];exact Vl _ _)).mono ?_;rintro e w3 ⟨rfl,E⟩;have H:=H.trans (E.mono H.size);clear l1 d0 d1 l2 c0 c1 c2 c3 c4 c5 c6 y E T;obtain⟨⟨⟨l1,d0,d1⟩,l2,c0,c1,c2,c3,c4,c5,c6⟩,F,A,y,D,t⟩:=HC.out w3 H;cases k4:ax l.n (λj=>py (l.z j));rotate_left
 .have W:Hid (g9 p s l=1):=Fy H0.out HM.out K3.out k4;clear k4;clear F A t;obtain⟨zl,am,aw,an,zc1,ay,zc2,a1,zc3,ar,zc4,aj,zc5,ak,ao⟩:=z7 D;go_wp2_with fail;exact ip results42 D y (by omega) W.out (by decide) rfl rfl rfl
 have W:Hid (g9 p s l=0):=P2 H0.out HM.out K3.out (by rw[k4];decide);clear k4 K3 HM;have de:=D.lt;have cq:=ov p s w3 A HF.out;have cg:Hid _:=cq;have T:=hid t;clear cq D t F A;go_wp2_with fail;refine Calls.mono cg.out ?_;rintro e J ⟨o,rfl,m,bu,E⟩;clear cg;have cp:=H.trans (E.mono H.size);have q3:=H.size;have ct:Hid (w.heap.size<=w3.heap.size):=Qzx (HC.out _ brf).2.2.2.1.size H.size;have q4:=E.size;obtain⟨Y,cl,aa,a7⟩:=ab7 J o;have ch:=hid cl;have bt:=cp.trans (aa.mono cp.size);have a6:=ai.below bu aa;have br:=(T.out.below E).below aa;have q5:=aa.size;have eq:o.os.n<=4:=by have:=HF.out.os4;have:o.os.n=s.os.n:=m.os.1;omega
 clear l1 d0 d1 l2 c0 c1 c2 c3 c4 c5 c6 y de cl;simp only[St.val];go_wp2_with fail;rw[ch.out];have dr:=qa3 a6 a7 m;have dw:=hid br;have r0:=Qqq (a7.k 1);have em:J.heap.size<Y.heap.size:=a7.lt;clear bu a6 a7 m br T ch aa E;obtain⟨iO,hO,dg,dc,db⟩:=info_parts De;refine uj (λw'=>∃p:Regrown,w'=grow (redrawn Y p.d) p.os) [0,1,2] [3,4,5] [(true,6),(true,7),(true,8)] (Qqx (brf.drew)) ?_;simp only[du,Qyq,Xqq,Qyx,Qyz,Xqz,Xqx]
 repeat(go_big_quiet_step(fail))
 refine Qqz ?_;clear r0;refine⟨λj v g f=>match j with|3=>DHs Y.heap.size 59 l v g f|4=>D16 Y.heap.size ⟨0,l⟩ v g f|5=>D17 Y.heap.size ⟨0,l⟩ v g f|_=>True,
  Qjx ⟨λv g w w' H h=>DHs.below h H,Qjx ⟨λv g w w' H h=>D16.below h H,Qjx ⟨λv g w w' H h=>D17.below h H,Qjq _⟩⟩⟩,
  Qjx ⟨λv g w h=>by obtain⟨_,h1,_⟩:=h;rw[h1];intro x hx;simp at hx,Qjx ⟨λv g w h=>by obtain⟨_,h1,_⟩:=h;rw[h1];intro x hx;simp at hx,Qjx ⟨λv g w h=>by obtain⟨_,_,h1,_⟩:=h;rw[h1];intro x hx;simp at hx,Qjq _⟩⟩⟩,
  Qjx ⟨?zt3,Qjx ⟨?zt4,Qjx ⟨?zt5,Qjq _⟩⟩⟩,?ztdone⟩
 case zt3 =>
  intro V G f K hS hd hA hK;have S:=ae hS;have q:=S.size;refine aq 3 rfl ?_;simp only[ap,az,Qvz,Qwq,Qvx,Act.put,Qvq,Qwx,Qwz] at hK ⊢;go_wp2_with fail;refine(Ic l f (dw.out.below S) (by omega)).mono ?_;rintro e Q ⟨r,rfl,hc,E⟩;have HR:Hid (qm Y.heap.size 59 l Q r):=⟨hc.1,hc.2.1,hc.2.2.1.mono (by omega),hc.2.2.2.mono (by omega)⟩;clear hc;simp only[Hs.val];go_wp2_with fail;exact hK _ [] _ (Qqx (S.trans (E.mono S.size))) E (λx hx=>by simp at hx) ⟨r,rfl,rfl,HR.out⟩
 case zt4 =>
  intro V G f K hS hd hA hK;obtain⟨r,-,da,hc⟩:DHs Y.heap.size 59 l (V 3) (G 3) f:=hd 3 (Qjz (by kernel_rfl)) (by simp);have ab:Hid (qm Y.heap.size 59 l f r):=hc;clear hc;refine aq 4 rfl ?_;simp only[ap,az,Qvz,Qwq,Qvx,Act.put,Qvq,Qwx,Qwz,da] at hK ⊢;go_wp2_with fail;exact hK _ [] _ hS brf (λx hx=>by simp at hx) ⟨r,rfl,rfl,ab.out⟩
 case zt5 =>
  intro V G f K hS hd hA hK;have S:=ae hS;obtain⟨r,-,d4,hc⟩:D16 Y.heap.size ⟨0,l⟩ (V 4) (G 4) f:=hd 4 (Qjz (by kernel_rfl)) (by simp);have ab:Hid (qm Y.heap.size 59 l f r):=hc;clear hc;refine aq 5 rfl ?_;simp only[ap,az,Qvz,Qwq,Qvx,Act.put,Qvq,Qwx,Qwz,d4] at hK ⊢;go_wp2_with fail;have ci:=(Below.refl f.heap.size f).alloc nlr (.cells #[.int .i64 0,.slice r.a r.n r.c] 57);exact hK _ [] _ (Qqx (S.alloc S.size _)) (brf.alloc nlr _) (λx hx=>by simp at hx) ⟨f.heap.size,r,rfl,rfl,S.size,Blk.mk' rfl rfl,ab.out.1,ab.out.2.1,ab.out.2.2.1.below ci,ab.out.2.2.2.below ci⟩
 case ztdone =>
  intro V G' f hS hD hA;obtain⟨BO,r,-,d5,et,cr,e1,e2,⟨o1,o2,o3,o4⟩,-⟩:D17 Y.heap.size ⟨0,l⟩ (V 5) (G' 5) f:=hD 5 (by simp);have S:=ae hS;have q1:=S.size;obtain⟨gB,ea,bi,kB⟩:=o4 (by rw[e1];show 0<l.n;omega);obtain⟨bm,K5,m⟩:=dr.out;have cn:=ai.below bm S;have K6:=K5.below S;have ck:=bt.trans (S.mono bt.size);have HE:=qa8 e1 e2 ea o1 o2 kB m bi;have U:=qa2 cn bm;have cb:=hid K6;have bw:=hid ck;have a3:=hid cr;clear hS hD hA e1 e2 ea o1 o2 o3 o4 kB bm K5 m cn K6 ck cr bt;simp only[ap,az,Qvz,Qwq,Qvx,Act.put,Qvq,Qwx,Qwz,d5];refine cf 6 rfl ?_;go_wp2_with(at_builtin;refine ui f rfl (.tmp 45) (.tmp 49) 27 rfl w3.heap.size 57 iO (.agg #[.int .i64 0,.slice none 0 0]) 2 32 underlying27 hO dg dc db rfl (by decide) o.os.a o.os.n o.os.c (jq o.os.n o.os.z) rfl U.out.1.os.room U.out.1.os.le U.out.1.os.cap (tx _ _) U.out.1.os.list ⟨BO,0,none⟩ 1 1 [.int .i64 0,.slice r.a r.n r.c] rfl rfl ?zc1 ?zc2 (by decide) ?zc3 ?zc4 ?zc5 ?_)
  case zc1 =>
   intro j u hj
   match j,hj with
   | 0,hj=>simp at hj;subst hj;exact a3.out.k 0
   | 1,hj=>simp at hj;subst hj;exact a3.out.k 1
  case zc2=>first|(intro u hu;simp at hu;rcases hu with rfl|rfl<;>rfl)|exact⟨rfl,rfl⟩
  case zc3=>unfold maxLen;omega
  case zc4=>omega
  case zc5=>omega
  intro v2 Q a9 M;obtain⟨e1,e2,ea,o1,o2,kB,m,bi⟩:=HE.out;obtain⟨P,L,rfl,cj⟩:=kq.more (x:=⟨0,r⟩) U.out.1.os a9 M ea (by omega) o1 o2 kB (λi hi e=>by
   obtain⟨B,x1,x2,x3,x4,x5⟩:=U.out.2.os.lines i hi;rw[x1] at e;have e':=e.trans ea;simp only[Qkx,Qkz,and_true] at e';have:=x5.lt;omega)
  have bl:=U.out.1.orders M cj;have ce:=M.below bw.out (by omega) (by have:=bw.out.size;omega);have K7:=M.blk cb.out (by decide);have xl:=K7.lt;have ep:=K7.frozen 1;have eu:=K7.k 1;have K8:=K7.set 1 (.slice P (o.os.n+1) L);have cc:=bl.box K7 1 (.slice P (o.os.n+1) L);have cd:=ce.setCell (p:=⟨J.heap.size,1,none⟩) (by show W0.heap.size<=J.heap.size;omega) (.slice P (o.os.n+1) L);have dk:Hid (af ⟨o.on,⟨P,o.os.n+1,L,mr o.os ⟨0,r⟩⟩,o.hs,o.ms,o.si,o.so,o.sf⟩ (ma s l)):=Ni m e1 e2;obtain⟨-,-,-,b0,bp,-⟩:=HC.out _ cd;have cu:=qa3 cc b0 bp;have m8:=K8.lt;have ej:(Q.setCell ⟨J.heap.size,1,none⟩ (.slice P (o.os.n+1) L)).cell? ⟨J.heap.size,0,none⟩=some (.slice o.on.a o.on.n o.on.c):=K8.k 0;have el:(Q.setCell ⟨J.heap.size,1,none⟩ (.slice P (o.os.n+1) L)).cell? ⟨J.heap.size,1,none⟩=some (.slice P (o.os.n+1) L):=K8.k 1;have er:(Q.setCell ⟨J.heap.size,1,none⟩ (.slice P (o.os.n+1) L)).cell? ⟨J.heap.size,2,none⟩=some (.slice o.hs.a o.hs.n o.hs.c):=K8.k 2;have es:(Q.setCell ⟨J.heap.size,1,none⟩ (.slice P (o.os.n+1) L)).cell? ⟨J.heap.size,3,none⟩=some (.slice o.ms.a o.ms.n o.ms.c):=K8.k 3;have en:(Q.setCell ⟨J.heap.size,1,none⟩ (.slice P (o.os.n+1) L)).cell? ⟨J.heap.size,4,none⟩=some (.slice o.si.a o.si.n o.si.c):=K8.k 4;have ek:(Q.setCell ⟨J.heap.size,1,none⟩ (.slice P (o.os.n+1) L)).cell? ⟨J.heap.size,5,none⟩=some (.slice o.so.a o.so.n o.so.c):=K8.k 5;have eo:(Q.setCell ⟨J.heap.size,1,none⟩ (.slice P (o.os.n+1) L)).cell? ⟨J.heap.size,6,none⟩=some (.slice o.sf.a o.sf.n o.sf.c):=K8.k 6;obtain⟨zl,am,aw,an,zc1,ay,zc2,a1,zc3,ar,zc4,aj,zc5,ak,ao⟩:=z7 bp;clear a9 M cj bl ce K7 K8 cc cd b0 bp HE U cb bw a3 kB m e1 e2 ea o1 o2 bi S;refine l8 ⟨gy.yes,?_⟩;refine cf 7 rfl ?_;go_wp2_with fail;refine⟨gy.yes,?_⟩;refine cf 8 rfl ?_;go_wp2_with fail;refine⟨gy.yes,?_⟩;refine NoPanic.normal ?_;go_wp2_with fail;obtain⟨d3,y,D⟩:=cu.out;have KZ:=nl D (.slice o.on.a o.on.n o.on.c) (.slice P (o.os.n+1) L) (.slice o.hs.a o.hs.n o.hs.c) (.slice o.ms.a o.ms.n o.ms.c) (.slice o.si.a o.si.n o.si.c) (.slice o.so.a o.so.n o.so.c) (.slice o.sf.a o.sf.n o.sf.c);have cm:=j7 (b:=w.heap.size+2) y (by omega) (.slice o.on.a o.on.n o.on.c) (.slice P (o.os.n+1) L) (.slice o.hs.a o.hs.n o.hs.c) (.slice o.ms.a o.ms.n o.ms.c) (.slice o.si.a o.si.n o.si.c) (.slice o.so.a o.so.n o.so.c) (.slice o.sf.a o.sf.n o.sf.c);have bx:=ai.set7 d3 D (.slice o.on.a o.on.n o.on.c) (.slice P (o.os.n+1) L) (.slice o.hs.a o.hs.n o.hs.c) (.slice o.ms.a o.ms.n o.ms.c) (.slice o.si.a o.si.n o.si.c) (.slice o.so.a o.so.n o.so.c) (.slice o.sf.a o.sf.n o.sf.c);unfold set7 at KZ cm bx;obtain⟨dz,dn,dj,dx,c7,dt,d2⟩:=df KZ;refine Xzq (v := .tuple #[(⟨o.on,⟨P,o.os.n+1,L,mr o.os ⟨0,r⟩⟩,o.hs,o.ms,o.si,o.so,o.sf⟩:St).val,.int .i64 0]) (by simp[results,results42,go_sem,St.val,dz,dn,dj,dx,c7,dt,d2]) rfl ?_;exact⟨⟨o.on,⟨P,o.os.n+1,L,mr o.os ⟨0,r⟩⟩,o.hs,o.ms,o.si,o.so,o.sf⟩,by rw[W.out];rfl,bx.at,⟨λ_=>dk.out,λh=>absurd W.out h⟩,λ_=>bx.mono ct.out,cm⟩
theorem Ou(p:Pl)(s:St)(l:Hs)(w:World)(hp:p.At w)(hs:s.At w)(hl:l.At w):
  Calls prog 54 #[p.val,s.val,l.val] w λe w'=>∃H:St,e = .returned (.tuple #[H.val,.int .i64 (g9 p s l)])/\H.At w'/\ij (g9 p s l) (ma s l) H/\(g9 p s l=0->ai w.heap.size w' H)/\Below w.heap.size w w':=by
 obtain⟨Y,hW,bh,X0,Z0⟩:=Cd w p s;have HC:Hid (∀f,Below Y.heap.size Y f->lx f w.heap.size (w.heap.size+1) p s/\p.At f/\s.At f/\Below w.heap.size w f/\Blk f (w.heap.size+2) 31 7 (λ_ => .slice .none 0 0)/\l.At f):=λf h=>⟨X0.below h,(hp.below bh).below h,(hs.below bh).below h,bh.trans (h.mono bh.size),Z0.below h,(hl.below bh).below h⟩;have HW:=hid hW;have leb:=hp.leb;have cr:=hp.capb;have les:=hp.les;have ak:=hp.caps;have capb:=cr;have caps:=ak;have fq:=Z0.lt;unfold maxLen at capb caps;have f1:=hl.le;have cq:=hl.cap;have dz:=cq;unfold maxLen at dz;clear hW X0 Z0 hp hs hl;unfold Pl.val St.val Hs.val;go_enter func54,ntmps54;go_wp2_with fail;rw[HW.out];obtain⟨X,E,D,m,t,r⟩:=HC.out Y brf;refine(ky p s Y E D).mono ?_;rintro e w1 ⟨rfl,y⟩;clear X E D m t r HW;obtain⟨⟨⟨l1,d0,d1⟩,l2,c0,c1,c2,c3,c4,c5,c6⟩,E,D,m,t,r⟩:=HC.out w1 y;by_cases h0:ag p s=0;rotate_left
 .have W:Hid (g9 p s l=ag p s):=D9 h0;clear E D r c0 c1 c2 c3 c4 c5 c6;obtain⟨zl,ao,a1,ar,zc1,a2,zc2,a5,zc3,aw,zc4,al,zc5,am,av⟩:=z7 t;go_wp2_with fail;exact ip results54 t m (by omega) W.out h0 rfl rfl rfl
 have H0:=hid h0;have HF:Hid (cx p s):=(dp h0).fm;rw[h0];clear h0;have os4:=HF.out.os4;by_cases k1:s.os.n=4
 .have W:Hid (g9 p s l=2):=zv H0.out (Or.inl k1);have g1:(4:Int)<=(s.os.n:Int):=by omega
  have g2:4<=s.os.n:=by omega
  have g3:decide ((4:Int)<=(s.os.n:Int))=true:=decide_eq_true g1;have g4:decide (4<=s.os.n)=true:=decide_eq_true g2;clear k1 os4;clear E D r;obtain⟨zl,ao,a1,ar,zc1,a2,zc2,a5,zc3,aw,zc4,al,zc5,am,av⟩:=z7 t;go_wp2_with(go_at_call 23;refine ah (cg _ _ _ _) ?_);exact ip results54 t m (by omega) W.out (by decide) rfl rfl rfl
 have g1:¬(4:Int)<=(s.os.n:Int):=by omega
 have g2:¬4<=s.os.n:=by omega
 have g3:decide ((4:Int)<=(s.os.n:Int))=false:=decide_eq_false g1;have g4:decide (4<=s.os.n)=false:=decide_eq_false g2;cases k2:inB l.n 1 3
 .have W:Hid (g9 p s l=2):=zv H0.out (Or.inr (by have:=Qc k2;omega));clear k1 os4;clear E D r;obtain⟨zl,ao,a1,ar,zc1,a2,zc2,a5,zc3,aw,zc4,al,zc5,am,av⟩:=z7 t;go_wp2_with(go_at_call 23;refine ah (cg _ _ _ _) ?_);exact ip results54 t m (by omega) W.out (by decide) rfl rfl rfl
 have gc:=au k2;have HM:Hid (¬(s.os.n=4\/¬(1<=l.n/\l.n<=3))):=by show ¬_;omega
 clear k1;obtain⟨bl,ol,M,-⟩:=r.hds 0 (by omega);have b6:=hid M;clear t E D r m;rw[M];clear M;go_wp2_with(go_at_call 23;refine ah (cg _ _ _ _) ?_);clear l1 d0 d1 l2 c0 c1 c2 c3 c4 c5 c6 g1 g2 g3 g4 k2 os4
 go_loopw [9] (λi f=>∃k:Nat,k<=l.n/\i = .int .i64 k/\(∀j,j<k->uq p (l.z j)=false)/\Below Y.heap.size Y f) (λi _=>l.n-(intOf i).toNat)
 case atStart=>exact⟨0,Qxz _,rfl,λj hj=>absurd hj (Qzq _),y⟩
 clear y;obtain⟨k,hk,rfl,bi,y⟩:=hrel;have HN:=hid bi;clear bi;obtain⟨⟨⟨l1,d0,d1⟩,l2,c0,c1,c2,c3,c4,c5,c6⟩,E,D,m,t,r⟩:=HC.out wr y;by_cases ba:k<l.n
 .obtain⟨b2,o2,M,eh,y0,y1,y2,y3⟩:=r.hds k ba;rw[b6.out] at M;simp only[Qkx,Qkz,and_true] at M;obtain⟨rfl,rfl⟩:=M;have J:Hid (uq p (l.z k)=(!(inB (l.z k).o 0 ((p.ns:Int)-1)) || !(inB (l.z k).l 1 200))):=rfl;have T:Hid (uq p (l.z k)=true->g9 p s l=3):=λh=>D8 H0.out HM.out (dv ba h);have aa:Hid (uq p (l.z k)=false->∀j,j<k+1->uq p (l.z j)=false):=λh=>xu HN.out h;have qk:(0:Int)<=(k:Int):=by omega
  generalize uq p (l.z k)=OL at *
  generalize l.z k=LZ at *
  have v0:=Qqq y0;have v1:=Qqq y1;have v2:=Qqq d0;have v3:=Qqq d1;clear y0 y1 y2 y3 d0 d1 c0 c1 c2 c3 c4 c5 c6 E D r m t l1 l2 HN;cases m1:inB LZ.o 0 ((p.ns:Int)-1)
  .have W:Hid (g9 p s l=3):=T.out (by rw[J.out,m1];rfl);clear T aa J;go_wp2_with fail;refine Qxq (by kernel_rfl) (by kernel_rfl) ?_
   repeat(go_big_quiet_step(first|(go_at_call 109;exact Xxz (vn p _ _ les ak))|(go_at_call 23;exact Xxz ((cg _ _ _ _).mono (λ_ _ h=>⟨h.1,h.2▸Below.refl _ _⟩)))))
   refine Qqz ?_;intro w9 aj;have bk:Below Y.heap.size Y w9:=by obtain⟨⟨dq,dj⟩,a4⟩:=aj;subst a4;exact y.trans ((Qxx _ _ _).mono y.size)
   clear aj v0 v1 v2 v3 y;obtain⟨⟨⟨l1,d0,d1⟩,l2,c0,c1,c2,c3,c4,c5,c6⟩,E,D,m,t,r⟩:=HC.out w9 bk;clear E D r;obtain⟨zl,ao,a1,ar,zc1,a2,zc2,a5,zc3,aw,zc4,al,zc5,am,av⟩:=z7 t;go_wp2_with fail;exact ip results54 t m (by omega) W.out (by decide) rfl rfl rfl
  cases m2:inB LZ.l 1 200
  .have W:Hid (g9 p s l=3):=T.out (by rw[J.out,m1,m2];rfl);clear T aa J;go_wp2_with fail;refine Qxq (by kernel_rfl) (by kernel_rfl) ?_
   repeat(go_big_quiet_step(first|(go_at_call 109;exact Xxz (vn p _ _ les ak))|(go_at_call 23;exact Xxz ((cg _ _ _ _).mono (λ_ _ h=>⟨h.1,h.2▸Below.refl _ _⟩)))))
   refine Qqz ?_;intro w9 aj;have bk:Below Y.heap.size Y w9:=by obtain⟨⟨dq,dj⟩,a4⟩:=aj;subst a4;exact y.trans ((Qxx _ _ _).mono y.size)
   clear aj v0 v1 v2 v3 y;obtain⟨⟨⟨l1,d0,d1⟩,l2,c0,c1,c2,c3,c4,c5,c6⟩,E,D,m,t,r⟩:=HC.out w9 bk;clear E D r;obtain⟨zl,ao,a1,ar,zc1,a2,zc2,a5,zc3,aw,zc4,al,zc5,am,av⟩:=z7 t;go_wp2_with fail;exact ip results54 t m (by omega) W.out (by decide) rfl rfl rfl
  have ce:Hid _:=aa.out (by rw[J.out,m1,m2];rfl);clear T aa J;go_wp2_with fail;refine Qxq (by kernel_rfl) (by kernel_rfl) ?_
  repeat(go_big_quiet_step(first|(go_at_call 109;exact Xxz (vn p _ _ les ak))|(go_at_call 23;exact Xxz ((cg _ _ _ _).mono (λ_ _ h=>⟨h.1,h.2▸Below.refl _ _⟩)))))
  refine Qqz ?_;intro w9 aj;have bk:Below Y.heap.size Y w9:=by obtain⟨⟨dq,dj⟩,a4⟩:=aj;subst a4;exact y.trans ((Qxx _ _ _).mono y.size)
  clear aj v0 v1 v2 v3 y;go_wp2_with fail;go_roundw
  case rel=>exact⟨k+1,by omega,by go_num,ce.out,bk⟩
  case measure=>simp[intOf];omega
 have K3:Hid (¬ax l.n (λj=>uq p (l.z j))=true):=by show ¬_;rw[cu λj hj=>HN.out j (by omega)];decide
 clear HN E D r m t l1 d0 d1 l2 c0 c1 c2 c3 c4 c5 c6;go_wp2_with fail;clear hk ba
 go_loopw [10] (λi f=>∃k:Nat,k<=l.n/\i = .int .i64 k/\(∀j,j<k->py (l.z j)=false)/\Below Y.heap.size Y f) (λi _=>l.n-(intOf i).toNat)
 case atStart=>exact⟨0,Qxz _,rfl,λj hj=>absurd hj (Qzq _),y⟩
 clear y;obtain⟨k,hk,rfl,bi,y⟩:=hrel;have HN:=hid bi;clear bi;obtain⟨⟨⟨l1,d0,d1⟩,l2,c0,c1,c2,c3,c4,c5,c6⟩,E,D,m,t,r⟩:=HC.out wr y;by_cases ba:k<l.n
 .obtain⟨b2,o2,M,eh,y0,y1,y2,y3⟩:=r.hds k ba;rw[b6.out] at M;simp only[Qkx,Qkz,and_true] at M;obtain⟨rfl,rfl⟩:=M;have J:Hid (py (l.z k)=((l.z k).b !=0||(l.z k).n !=0)):=rfl;have T:Hid (py (l.z k)=true->g9 p s l=1):=λh=>Fy H0.out HM.out K3.out (dv ba h);have aa:Hid (py (l.z k)=false->∀j,j<k+1->py (l.z j)=false):=λh=>xu HN.out h;have qk:(0:Int)<=(k:Int):=by omega
  generalize py (l.z k)=OL at *
  generalize l.z k=LZ at *
  clear c0 c1 c2 c3 c4 c5 c6 E D r HN;cases m1:(LZ.b !=0)
  .cases m2:(LZ.n !=0)
   .have ce:Hid _:=aa.out (by rw[J.out,m1,m2];rfl);clear T aa J t m;go_wp2_with fail;go_roundw
    case rel=>exact⟨k+1,by omega,by go_num,ce.out,y⟩
    case measure=>simp[intOf];omega
   have W:Hid (g9 p s l=1):=T.out (by rw[J.out,m1,m2];rfl);clear T aa J;obtain⟨zl,ao,a1,ar,zc1,a2,zc2,a5,zc3,aw,zc4,al,zc5,am,av⟩:=z7 t;go_wp2_with fail;exact ip results54 t m (by omega) W.out (by decide) rfl rfl rfl
  have W:Hid (g9 p s l=1):=T.out (by rw[J.out,m1];rfl);clear T aa J;obtain⟨zl,ao,a1,ar,zc1,a2,zc2,a5,zc3,aw,zc4,al,zc5,am,av⟩:=z7 t;go_wp2_with fail;exact ip results54 t m (by omega) W.out (by decide) rfl rfl rfl
 have W:Hid (g9 p s l=0):=P2 H0.out HM.out K3.out (by rw[cu λj hj=>HN.out j (by omega)];decide);clear K3 HM HN;have el:=t.lt;have d3:=hid m.size;have dr:=pd p s wr D HF.out;have db:Hid _:=dr;have de:=hid r;clear dr t r E D;go_wp2_with fail;refine Calls.mono db.out ?_;rintro e L ⟨o,rfl,F,bf,bu⟩;clear db;have dn:=y.trans (bu.mono y.size);have q3:=y.size;have q4:=bu.size;obtain⟨W5,dk,a3,bw⟩:=ab7 L o;have dc:=hid dk;have cj:=dn.trans (a3.mono dn.size);have bv:=ai.below bf a3;have ci:=(de.out.below bu).below a3;have q5:=a3.size;have f7:o.os.n<=4:=by have:=HF.out.os4;have:o.os.n=s.os.n:=F.os.1;omega
 clear l1 d0 d1 l2 c0 c1 c2 c3 c4 c5 c6 m el dk;simp only[St.val];go_wp2_with fail;rw[dc.out];have ey:=qa3 bv bw F;have e3:=hid ci;have r0:=Qqq (bw.k 1);have f3:L.heap.size<W5.heap.size:=bw.lt;clear bf bv bw F ci de dc a3 bu;obtain⟨iO,hO,em,ej,ei⟩:=info_parts De;obtain⟨iL,hL,es,fd,ee⟩:=info_parts Cv;refine uj (λw'=>∃p:Regrown,w'=grow (redrawn W5 p.d) p.os) [0,1,3] [2,4,5,6] [(true,7),(true,8),(true,9)] (Qqx (brf.drew)) ?_;simp only[du,Qyq,Xqq,Qyx,Qyz,Xqz,Xqx]
 repeat(go_big_quiet_step(fail))
 refine Qqz ?_;clear r0;refine⟨λj v g f=>match j with|4=>DHs W5.heap.size 59 l v g f|5=>D16 W5.heap.size ⟨0,l⟩ v g f|6=>D17 W5.heap.size ⟨0,l⟩ v g f|_=>DE v g,
  Qjx ⟨λv g w w' _ h=>h,Qjx ⟨λv g w w' y h=>DHs.below h y,Qjx ⟨λv g w w' y h=>D16.below h y,Qjx ⟨λv g w w' y h=>D17.below h y,Qjq _⟩⟩⟩⟩,
  Qjx ⟨λv g w h=>by obtain⟨_,h1,_⟩:=h;rw[h1];intro x hx;simp at hx,Qjx ⟨λv g w h=>by obtain⟨_,h1,_⟩:=h;rw[h1];intro x hx;simp at hx,Qjx ⟨λv g w h=>by obtain⟨_,h1,_⟩:=h;rw[h1];intro x hx;simp at hx,Qjx ⟨λv g w h=>by obtain⟨_,_,h1,_⟩:=h;rw[h1];intro x hx;simp at hx,Qjq _⟩⟩⟩⟩,
  Qjx ⟨?zt2,Qjx ⟨?zt3,Qjx ⟨?zt4,Qjx ⟨?zt5,Qjq _⟩⟩⟩⟩,?ztdone⟩
 case zt2 =>
  intro V G f K hS hd hA hK;have P:=ae hS;refine aq 2 rfl ?_;simp only[ap,az,Qvz,Qwq,Qvx,Act.put,Qvq,Qwx,Qwz] at hK ⊢;go_wp2_with fail;exact hK _ [] _ (Qqx (P.alloc P.size _)) (brf.alloc nlr _) (λx hx=>by simp at hx) ⟨f.heap.size,rfl,rfl⟩
 case zt3 =>
  intro V G f K hS hd hA hK;have P:=ae hS;have q:=P.size;obtain⟨B,-,h3⟩:DE (V 2) (G 2):=hd 2 (Qjz (by kernel_rfl)) (by simp);refine aq 4 rfl ?_;simp only[ap,az,Qvz,Qwq,Qvx,Act.put,Qvq,Qwx,Qwz,h3] at hK ⊢;go_wp2_with(at_builtin;refine po f rfl (.tmp 79) (.tmp 80) 45 rfl 59 iL (.agg #[.int .i64 0,.int .i64 0,.int .i64 0,.int .i64 0]) 4 32 underlying45 hL es fd ee rfl (by decide) B rfl (some ⟨bl,ol,none⟩) l.n l.c (ay l.n l.z) rfl (by rw[eu]) (λad ha=>Kh (e3.out.below P) ad (b6.out.trans ha)) (mw _ _) (λh=>by cases h) (by unfold maxLen;omega) (by omega) ?_ ?_)
  .intro h0;exact absurd h0 (by omega)
  intro h0 v' w1 bf co;have di:Below f.heap.size f w1:=(Below.refl _ f).grown co nlr (by intro k hk;cases hk);obtain⟨H,rfl,hc⟩:=Cj (A:=W5.heap.size) h0 bf (by omega);exact l8 (hK _ [] _ (Qqx (P.trans (di.mono P.size))) di (λx hx=>by simp at hx) ⟨H,rfl,rfl,hc⟩)
 case zt4 =>
  intro V G f K hS hd hA hK;obtain⟨H,-,eg,hc⟩:DHs W5.heap.size 59 l (V 4) (G 4) f:=hd 4 (Qjz (by kernel_rfl)) (by simp);have a9:Hid (qm W5.heap.size 59 l f H):=hc;clear hc;refine aq 5 rfl ?_;simp only[ap,az,Qvz,Qwq,Qvx,Act.put,Qvq,Qwx,Qwz,eg] at hK ⊢;go_wp2_with fail;exact hK _ [] _ hS brf (λx hx=>by simp at hx) ⟨H,rfl,rfl,a9.out⟩
 case zt5 =>
  intro V G f K hS hd hA hK;have P:=ae hS;obtain⟨H,-,fb,hc⟩:D16 W5.heap.size ⟨0,l⟩ (V 5) (G 5) f:=hd 5 (Qjz (by kernel_rfl)) (by simp);have a9:Hid (qm W5.heap.size 59 l f H):=hc;clear hc;refine aq 6 rfl ?_;simp only[ap,az,Qvz,Qwq,Qvx,Act.put,Qvq,Qwx,Qwz,fb] at hK ⊢;go_wp2_with fail;have dd:=(Below.refl f.heap.size f).alloc nlr (.cells #[.int .i64 0,.slice H.a H.n H.c] 57);exact hK _ [] _ (Qqx (P.alloc P.size _)) (brf.alloc nlr _) (λx hx=>by simp at hx) ⟨f.heap.size,H,rfl,rfl,P.size,Blk.mk' rfl rfl,a9.out.1,a9.out.2.1,a9.out.2.2.1.below dd,a9.out.2.2.2.below dd⟩
 case ztdone =>
  intro V G' f hS hD hA;obtain⟨BO,H,-,fe,ga,ds,e1,e2,⟨o1,o2,o3,o4⟩,-⟩:D17 W5.heap.size ⟨0,l⟩ (V 6) (G' 6) f:=hD 6 (by simp);have P:=ae hS;have q1:=P.size;obtain⟨gB,ea,b4,kB⟩:=o4 (by rw[e1];show 0<l.n;omega);obtain⟨b9,K5,F⟩:=ey.out;have dm:=ai.below b9 P;have K6:=K5.below P;have dh:=cj.trans (P.mono cj.size);have HE:=qa8 e1 e2 ea o1 o2 kB F b4;have ac:=qa2 dm b9;have c7:=hid K6;have ck:=hid dh;have bn:=hid ds;clear hS hD hA e1 e2 ea o1 o2 o3 o4 kB b9 K5 F dm K6 dh ds cj;simp only[ap,az,Qvz,Qwq,Qvx,Act.put,Qvq,Qwx,Qwz,fe];refine cf 7 rfl ?_;go_wp2_with(at_builtin;refine ui f rfl (.tmp 78) (.tmp 83) 27 rfl wr.heap.size 57 iO (.agg #[.int .i64 0,.slice none 0 0]) 2 32 underlying27 hO em ej ei rfl (by decide) o.os.a o.os.n o.os.c (jq o.os.n o.os.z) rfl ac.out.1.os.room ac.out.1.os.le ac.out.1.os.cap (tx _ _) ac.out.1.os.list ⟨BO,0,none⟩ 1 1 [.int .i64 0,.slice H.a H.n H.c] rfl rfl ?zc1 ?zc2 (by decide) ?zc3 ?zc4 ?zc5 ?_)
  case zc1 =>
   intro j u hj
   match j,hj with
   | 0,hj=>simp at hj;subst hj;exact bn.out.k 0
   | 1,hj=>simp at hj;subst hj;exact bn.out.k 1
  case zc2=>first|(intro u hu;simp at hu;rcases hu with rfl|rfl<;>rfl)|exact⟨rfl,rfl⟩
  case zc3=>unfold maxLen;omega
  case zc4=>omega
  case zc5=>omega
  intro v2 w2 bx S;obtain⟨e1,e2,ea,o1,o2,kB,F,b4⟩:=HE.out;obtain⟨U,Q,rfl,dg⟩:=kq.more (x:=⟨0,H⟩) ac.out.1.os bx S ea (by omega) o1 o2 kB (λi hi e=>by
   obtain⟨B,x1,x2,x3,x4,x5⟩:=ac.out.2.os.lines i hi;rw[x1] at e;have e':=e.trans ea;simp only[Qkx,Qkz,and_true] at e';have:=x5.lt;omega)
  have b7:=ac.out.1.orders S dg;have da:=S.below ck.out (by omega) (by have:=ck.out.size;omega);have K7:=S.blk c7.out (by decide);have xl:=K7.lt;have f6:=K7.frozen 1;have gb:=K7.k 1;have K8:=K7.set 1 (.slice U (o.os.n+1) Q);have c8:=b7.box K7 1 (.slice U (o.os.n+1) Q);have c9:=da.setCell (p:=⟨L.heap.size,1,none⟩) (by show Y.heap.size<=L.heap.size;omega) (.slice U (o.os.n+1) Q);have et:Hid (af ⟨o.on,⟨U,o.os.n+1,Q,mr o.os ⟨0,H⟩⟩,o.hs,o.ms,o.si,o.so,o.sf⟩ (ma s l)):=Ni F e1 e2;obtain⟨-,-,-,cm,cd,-⟩:=HC.out _ c9;have dx:=qa3 c8 cm cd;have m8:=K8.lt;have fz:(w2.setCell ⟨L.heap.size,1,none⟩ (.slice U (o.os.n+1) Q)).cell? ⟨L.heap.size,0,none⟩=some (.slice o.on.a o.on.n o.on.c):=K8.k 0;have f2:(w2.setCell ⟨L.heap.size,1,none⟩ (.slice U (o.os.n+1) Q)).cell? ⟨L.heap.size,1,none⟩=some (.slice U (o.os.n+1) Q):=K8.k 1;have f8:(w2.setCell ⟨L.heap.size,1,none⟩ (.slice U (o.os.n+1) Q)).cell? ⟨L.heap.size,2,none⟩=some (.slice o.hs.a o.hs.n o.hs.c):=K8.k 2;have f9:(w2.setCell ⟨L.heap.size,1,none⟩ (.slice U (o.os.n+1) Q)).cell? ⟨L.heap.size,3,none⟩=some (.slice o.ms.a o.ms.n o.ms.c):=K8.k 3;have f4:(w2.setCell ⟨L.heap.size,1,none⟩ (.slice U (o.os.n+1) Q)).cell? ⟨L.heap.size,4,none⟩=some (.slice o.si.a o.si.n o.si.c):=K8.k 4;have f0:(w2.setCell ⟨L.heap.size,1,none⟩ (.slice U (o.os.n+1) Q)).cell? ⟨L.heap.size,5,none⟩=some (.slice o.so.a o.so.n o.so.c):=K8.k 5;have f5:(w2.setCell ⟨L.heap.size,1,none⟩ (.slice U (o.os.n+1) Q)).cell? ⟨L.heap.size,6,none⟩=some (.slice o.sf.a o.sf.n o.sf.c):=K8.k 6;obtain⟨zl,ao,a1,ar,zc1,a2,zc2,a5,zc3,aw,zc4,al,zc5,am,av⟩:=z7 cd;clear bx S dg b7 da K7 K8 c8 c9 cm cd HE ac c7 ck bn kB F e1 e2 ea o1 o2 b4 P;refine l8 ⟨gy.yes,?_⟩;refine cf 8 rfl ?_;go_wp2_with fail;refine⟨gy.yes,?_⟩;refine cf 9 rfl ?_;go_wp2_with fail;refine⟨gy.yes,?_⟩;refine NoPanic.normal ?_;go_wp2_with fail;obtain⟨fa,m,t⟩:=dx.out;have KZ:=nl t (.slice o.on.a o.on.n o.on.c) (.slice U (o.os.n+1) Q) (.slice o.hs.a o.hs.n o.hs.c) (.slice o.ms.a o.ms.n o.ms.c) (.slice o.si.a o.si.n o.si.c) (.slice o.so.a o.so.n o.so.c) (.slice o.sf.a o.sf.n o.sf.c);have dl:=j7 (b:=w.heap.size+2) m (by omega) (.slice o.on.a o.on.n o.on.c) (.slice U (o.os.n+1) Q) (.slice o.hs.a o.hs.n o.hs.c) (.slice o.ms.a o.ms.n o.ms.c) (.slice o.si.a o.si.n o.si.c) (.slice o.so.a o.so.n o.so.c) (.slice o.sf.a o.sf.n o.sf.c);have cl:=ai.set7 fa t (.slice o.on.a o.on.n o.on.c) (.slice U (o.os.n+1) Q) (.slice o.hs.a o.hs.n o.hs.c) (.slice o.ms.a o.ms.n o.ms.c) (.slice o.si.a o.si.n o.si.c) (.slice o.so.a o.so.n o.so.c) (.slice o.sf.a o.sf.n o.sf.c);unfold set7 at KZ dl cl;obtain⟨e8,ew,eq,e5,ec,e4,e9⟩:=df KZ;refine Xzq (v := .tuple #[(⟨o.on,⟨U,o.os.n+1,Q,mr o.os ⟨0,H⟩⟩,o.hs,o.ms,o.si,o.so,o.sf⟩:St).val,.int .i64 0]) (by simp[results,results54,go_sem,St.val,e8,ew,eq,e5,ec,e4,e9]) rfl ?_;exact⟨⟨o.on,⟨U,o.os.n+1,Q,mr o.os ⟨0,H⟩⟩,o.hs,o.ms,o.si,o.so,o.sf⟩,by rw[W.out];rfl,cl.at,⟨λ_=>et.out,λh=>absurd W.out h⟩,λ_=>cl.mono d3.out,dl⟩
structure Ms(w:World)(g:Nat)(a k:Int):Prop where
 b0:Blk w (g) 3 2 (λj=>(#[.int .i64 9,.int .i64 0]:Array Value).getD j default)
 b1:Blk w (g+1) 3 2 (λj=>(#[.int .i64 3,.int .i64 0]:Array Value).getD j default)
 b2:Blk w (g+2) 3 2 (λj=>(#[.int .i64 0,.int .i64 6]:Array Value).getD j default)
 b3:Blk w (g+3) 23 3 (λj=>(#[.slice (some ⟨g,0,none⟩) 2 2,.slice (some ⟨g+1,0,none⟩) 2 2,.slice (some ⟨g+2,0,none⟩) 2 2]:Array Value).getD j default)
 b4:Blk w (g+4) 59 8 (λj=>(#[.int .i64 0,.int .i64 6,.int .i64 1,.int .i64 0,.int .i64 1,.int .i64 9,.int .i64 0,.int .i64 3]:Array Value).getD j default)
 b5:Blk w (g+5) 59 4 (λj=>(#[.int .i64 0,.int .i64 4,.int .i64 0,.int .i64 0]:Array Value).getD j default)
 b6:Blk w (g+6) 57 4 (λj=>(#[.int .i64 1,.slice (some ⟨g+4,0,none⟩) 2 2,.int .i64 k,.slice (some ⟨g+5,0,none⟩) 1 1]:Array Value).getD j default)
 b7:Blk w (g+7) 61 12 (λj=>(#[.int .i64 0,.int .i64 0,.int .i64 0,.int .i64 a,.int .i64 0,.int .i64 0,.int .i64 1,.int .i64 3,.int .i64 0,.int .i64 1,.int .i64 2,.int .i64 6]:Array Value).getD j default)
 b8:Blk w (g+8) 63 4 (λj=>(#[.int .i64 0,.int .i64 0,.int .i64 1,.int .i64 5]:Array Value).getD j default)
 b9:Blk w (g+9) 3 2 (λj=>(#[.int .i64 13,.int .i64 6]:Array Value).getD j default)
 b10:Blk w (g+10) 3 2 (λj=>(#[.int .i64 1,.int .i64 0]:Array Value).getD j default)
 b11:Blk w (g+11) 3 2 (λj=>(#[.int .i64 0,.int .i64 0]:Array Value).getD j default)
theorem Ms.below{c:World}{a k:Int}(h:Ms w g a k)(b:Below w.heap.size w c):Ms c g a k:=⟨h.b0.below b,h.b1.below b,h.b2.below b,h.b3.below b,h.b4.below b,h.b5.below b,h.b6.below b,h.b7.below b,h.b8.below b,h.b9.below b,h.b10.below b,h.b11.below b⟩
def bz0:Nat->Int
 | 0=>9
 | _=>0
def bz1:Nat->Int
 | 0=>3
 | _=>0
def bz2:Nat->Int
 | 0=>0
 | _=>6
def bzi:Nat->Int
 | 0=>13
 | _=>6
def bzo:Nat->Int
 | 0=>1
 | _=>0
def bl0:Nat->Hd
 | 0=>⟨0,6,1,0⟩
 | _=>⟨1,9,0,3⟩
def bhs(a:Int):Nat->Hd
 | 0=>⟨0,0,0,a⟩
 | 1=>⟨0,0,1,3⟩
 | _=>⟨0,1,2,6⟩
def bon(g:Nat):Nat->Rw
 | 0=>⟨some ⟨g,0,none⟩,2,2,bz0⟩
 | 1=>⟨some ⟨g+1,0,none⟩,2,2,bz1⟩
 | _=>⟨some ⟨g+2,0,none⟩,2,2,bz2⟩
def bos(g:Nat)(k:Int):Nat->Od
 | 0=>⟨1,⟨some ⟨g+4,0,none⟩,2,2,bl0⟩⟩
 | _=>⟨k,⟨some ⟨g+5,0,none⟩,1,1,λ_=>⟨0,4,0,0⟩⟩⟩
def G5(g:Nat)(a k:Int):St:=⟨⟨some ⟨g+3,0,none⟩,3,3,bon g⟩,⟨some ⟨g+6,0,none⟩,2,2,bos g k⟩,⟨some ⟨g+7,0,none⟩,3,3,bhs a⟩,⟨some ⟨g+8,0,none⟩,1,1,λ_=>⟨0,0,1,5⟩⟩,⟨some ⟨g+9,0,none⟩,2,2,bzi⟩,⟨some ⟨g+10,0,none⟩,2,2,bzo⟩,⟨some ⟨g+11,0,none⟩,2,2,λ_=>0⟩⟩
theorem Ee(h:n<=100):n<=maxLen:=by unfold maxLen;omega
theorem Gn{x y:Int}{z:Nat->Int}(h:Blk w g e 2 (λj=>(#[.int .i64 x,.int .i64 y]:Array Value).getD j default))(b:z 0=x)(c:z 1=y):Rw.At w ⟨some ⟨g,0,none⟩,2,2,z⟩:=by
 refine⟨Nat.le_refl _,Ee (n:=2) (by decide),λi hi => ?_⟩;have a:i<2:=hi;refine⟨g,0,rfl,h.lt,?_⟩
 match i,a with
 | 0,_=>show w.cell? ⟨g,0+0,none⟩=some (.int .i64 (z 0));rw[b];exact h.k 0
 | 1,_=>show w.cell? ⟨g,0+1,none⟩=some (.int .i64 (z 1));rw[c];exact h.k 1
theorem ac9{a k:Int}(h:Ms w g a k):(G5 g a k).At w:=by
 refine⟨⟨Nat.le_refl _,Ee (n:=3) (by decide),λi hi => ?_⟩,⟨Nat.le_refl _,Ee (n:=2) (by decide),λi hi => ?_⟩,⟨Nat.le_refl _,Ee (n:=3) (by decide),λi hi => ?_,λe=>by cases e⟩,⟨Nat.le_refl _,Ee (n:=1) (by decide),λi hi => ?_,λe=>by cases e⟩,Gn h.b9 rfl rfl,Gn h.b10 rfl rfl,Gn h.b11 rfl rfl⟩
 .have b:i<3:=hi;refine⟨g+3,0,rfl,h.b3.lt,?_⟩
  match i,b with
  | 0,_=>exact⟨h.b3.k 0,Gn h.b0 rfl rfl⟩
  | 1,_=>exact⟨h.b3.k 1,Gn h.b1 rfl rfl⟩
  | 2,_=>exact⟨h.b3.k 2,Gn h.b2 rfl rfl⟩
 rotate_left
 .have b:i<3:=hi;refine⟨g+7,0,rfl,h.b7.lt,?_⟩
  match i,b with
  | 0,_=>exact⟨h.b7.k 0,h.b7.k 1,h.b7.k 2,h.b7.k 3⟩
  | 1,_=>exact⟨h.b7.k 4,h.b7.k 5,h.b7.k 6,h.b7.k 7⟩
  | 2,_=>exact⟨h.b7.k 8,h.b7.k 9,h.b7.k 10,h.b7.k 11⟩
 .have b:i<1:=hi;refine⟨g+8,0,rfl,h.b8.lt,?_⟩
  match i,b with
  | 0,_=>exact⟨h.b8.k 0,h.b8.k 1,h.b8.k 2,h.b8.k 3⟩
 have b:i<2:=hi;refine⟨g+6,0,rfl,h.b6.lt,?_⟩
 match i,b with
 | 0,_ =>
  refine⟨h.b6.k 0,h.b6.k 1,Nat.le_refl _,Ee (n:=2) (by decide),λj d => ?_,λe=>by cases e⟩;have c:j<2:=d;refine⟨g+4,0,rfl,h.b4.lt,?_⟩
  match j,c with
  | 0,_=>exact⟨h.b4.k 0,h.b4.k 1,h.b4.k 2,h.b4.k 3⟩
  | 1,_=>exact⟨h.b4.k 4,h.b4.k 5,h.b4.k 6,h.b4.k 7⟩
 | 1,_ =>
  refine⟨h.b6.k 2,h.b6.k 3,Nat.le_refl _,Ee (n:=1) (by decide),λj d => ?_,λe=>by cases e⟩;have c:j<1:=d;refine⟨g+5,0,rfl,h.b5.lt,?_⟩
  match j,c with
  | 0,_=>exact⟨h.b5.k 0,h.b5.k 1,h.b5.k 2,h.b5.k 3⟩
theorem aaw(w:World):
  Calls prog 27 #[] w λe a=>∃g,e = .returned (G5 g 2 0).val/\w.heap.size<g/\Ms a g 2 0/\Below w.heap.size w a:=by
 go_enter func27,ntmps27
 go_wp2
 refine Xzq (v:=(G5 (w.heap.size+1) 2 0).val) (by simp[results,results27,go_sem,G5,St.val]) rfl ?_;refine⟨w.heap.size+1,rfl,by omega,⟨Blk.alloc (Blk.alloc (Blk.alloc (Blk.alloc (Blk.alloc (Blk.alloc (Blk.alloc (Blk.alloc (Blk.alloc (Blk.alloc (Blk.alloc (Blk.mk' (by simp<;>omega) rfl) _) _) _) _) _) _) _) _) _) _) _,Blk.alloc (Blk.alloc (Blk.alloc (Blk.alloc (Blk.alloc (Blk.alloc (Blk.alloc (Blk.alloc (Blk.alloc (Blk.alloc (Blk.mk' (by simp<;>omega) rfl) _) _) _) _) _) _) _) _) _) _,Blk.alloc (Blk.alloc (Blk.alloc (Blk.alloc (Blk.alloc (Blk.alloc (Blk.alloc (Blk.alloc (Blk.alloc (Blk.mk' (by simp<;>omega) rfl) _) _) _) _) _) _) _) _) _,Blk.alloc (Blk.alloc (Blk.alloc (Blk.alloc (Blk.alloc (Blk.alloc (Blk.alloc (Blk.alloc (Blk.mk' (by simp<;>omega) rfl) _) _) _) _) _) _) _) _,Blk.alloc (Blk.alloc (Blk.alloc (Blk.alloc (Blk.alloc (Blk.alloc (Blk.alloc (Blk.mk' (by simp<;>omega) rfl) _) _) _) _) _) _) _,Blk.alloc (Blk.alloc (Blk.alloc (Blk.alloc (Blk.alloc (Blk.alloc (Blk.mk' (by simp<;>omega) rfl) _) _) _) _) _) _,Blk.alloc (Blk.alloc (Blk.alloc (Blk.alloc (Blk.alloc (Blk.mk' (by simp<;>omega) rfl) _) _) _) _) _,Blk.alloc (Blk.alloc (Blk.alloc (Blk.alloc (Blk.mk' (by simp<;>omega) rfl) _) _) _) _,Blk.alloc (Blk.alloc (Blk.alloc (Blk.mk' (by simp<;>omega) rfl) _) _) _,Blk.alloc (Blk.alloc (Blk.mk' (by simp<;>omega) rfl) _) _,Blk.alloc (Blk.mk' (by simp<;>omega) rfl) _,Blk.mk' (by simp<;>omega) rfl⟩,?_⟩;exact((((((((((((brf.alloc nlr _).alloc (by simp<;>omega) _).alloc (by simp<;>omega) _).alloc (by simp<;>omega) _).alloc (by simp<;>omega) _).alloc (by simp<;>omega) _).alloc (by simp<;>omega) _).alloc (by simp<;>omega) _).alloc (by simp<;>omega) _).alloc (by simp<;>omega) _).alloc (by simp<;>omega) _).alloc (by simp<;>omega) _).alloc (by simp<;>omega) _
theorem Iv{f:Nat->Bool}(h:n=0):ax n f=false:=cu λj a=>absurd a (by omega)
theorem vv{z:Nat->Int}:∀{n:Nat},(∀j,j<n->z j=0)->cv z n=0
 | 0,_=>rfl
 | n+1,h=>by simp only[cv];rw[vv (n:=n) λj a=>h j (by omega),h n (by omega)];rfl
theorem T6(a:et p=0)(b:td p s):vz p s.on :=
 ⟨Jz a,b.1,λi hi=>(b.2.1 i (by have:=b.1;omega)).1,λi hi j c=>by rw[(b.2.1 i (by have:=b.1;omega)).2 j c];omega⟩
theorem T5(b:td p s)(hi:i<p.nb)(c:j<p.ns):aw s i j=0:=by
 obtain⟨-,e,-,a,d,-⟩:=b;unfold aw;rw[a,d,(e i hi).2 j c]
 rfl
theorem Iy{r:Rw}(h:r.n=p.ns/\∀j,j<p.ns->r.z j=0)(b:W<=0):mh p r W=false:=by
 unfold mh;rw[Xxq];refine⟨by simp[h.1],cu λj a => ?_⟩;rw[h.2 j (by rw[<-h.1];exact a),bw ⟨b,by omega⟩]
 rfl
theorem qd(h:et p=0)(b:td p s):ag p s=0:=by
 have t:=yg h (T6 h b);have u:=b;obtain⟨x,w,c,m,f,d,j,e⟩:=u;have r:gh s=false:=by unfold gh;rw[c,f];rfl
 have k:jo p s=false:=Iv c;have v:gt p s=false:=by unfold gt;rw[m];rfl
 have o:kt p s=false:=Iv f;have n:fs p s=false:=by
  unfold fs;rw[Iy d (by omega),Iy j (by omega),Iy e (by omega)]
  rfl
 have l:lq p s=false:=cu λg a=>by
  rw[qu,vv (λi hi=>(w i (by omega)).2 g a),d.2 g a,j.2 g a,e.2 g a,cu λi hi=>by rw[T5 b hi a];rfl]
  rfl
 have q:jn s=false:=Iv c;rw[Bh t r k v o n,l,q]
 rfl
theorem Ld{l:Hs}(h:g9 p s l=0):ag p s=0/\1<=l.n/\l.n<=3/\¬s.os.n=4/\ax l.n (λj=>uq p (l.z j))=false/\ax l.n (λj=>py (l.z j))=false:=by
 by_cases a:ag p s=0
 .by_cases b:s.os.n=4\/¬(1<=l.n/\l.n<=3)
  .rw[zv a b] at h;exact absurd h (by decide)
  cases c:ax l.n (λj=>uq p (l.z j))
  .cases d:ax l.n (λj=>py (l.z j))
   .exact⟨a,by omega,by omega,by omega,rfl,rfl⟩
   rw[Fy a b (by rw[c];decide) d] at h;exact absurd h (by decide)
  rw[D8 a b c] at h;exact absurd h (by decide)
 rw[D9 a] at h;exact absurd h a
theorem ld(h:iy p s g=false):cv (λi=>(s.on.r i).z g) s.on.n=s.si.z g-s.so.z g+s.sf.z g/\∀b,b<p.nb->0<=aw s b g:=by
 rw[qu,Xxq] at h;refine⟨by simpa using h.1,λb a => ?_⟩;have:=dk h.2 b a
 simpa using this
theorem ti(d:cv (λi=>(s.on.r i).z g) s.on.n=s.si.z g-s.so.z g+s.sf.z g)(c:∀b,b<p.nb->0<=aw s b g):iy p s g=false:=by
 rw[qu,Xxq];exact⟨by simp[d],cu λb a=>by have:=c b a;simpa using this⟩
theorem Ll{bin good n:Int}(h:ii p s bin good n=0):ag p s=0/\(0<=bin/\bin<p.nb)/\(0<=good/\good<p.ns)/\(1<=n/\n<=200)/\n*p.zs good.toNat<=gj p s bin.toNat/\dx s bin.toNat good.toNat+n<=200/\s.si.z good.toNat+n<=1048576:=by
 unfold ii at h;by_cases e:ag p s=0;rotate_left
 .rw[if_neg e] at h;exact absurd h e
 rw[if_pos e] at h;cases d:(inB bin 0 ((p.nb:Int)-1)&&inB good 0 ((p.ns:Int)-1)&&inB n 1 200)
 .rw[d] at h;simp at h
 rw[d] at h;simp only[if_true] at h;simp only[Xxx] at d;have a:=au d.1.1;have b:=au d.1.2;have c:=au d.2;by_cases f:gj p s bin.toNat<n*p.zs good.toNat
 .rw[if_pos f] at h;simp at h
 rw[if_neg f] at h;by_cases g:200<dx s bin.toNat good.toNat+n\/1048576<s.si.z good.toNat+n
 .rw[if_pos g] at h;simp at h
 exact⟨e,by omega,by omega,c,by omega,by omega,by omega⟩
section
variable {p:Pl} {s:St} {b g:Nat} {n:Int}
theorem Hv(i j:Nat):((mt s b g n).on.r i).z j=(s.on.r i).z j+if i=b/\j=g then n else 0:=by
 show(if i=b then lp (s.on.r i) g ((s.on.r b).z g+n) else s.on.r i).z j=_;by_cases hi:i=b
 .subst hi;rw[if_pos rfl];show(if j=g then(s.on.r i).z g+n else(s.on.r i).z j)=_;by_cases a:j=g
  .subst a;simp
  simp[a]
 rw[if_neg hi];simp[hi]
theorem abq(i:Nat):((mt s b g n).on.r i).n=(s.on.r i).n:=by
 show(if i=b then lp (s.on.r i) g ((s.on.r b).z g+n) else s.on.r i).n=_;by_cases hi:i=b
 .rw[if_pos hi];rfl
 rw[if_neg hi]
theorem Vb(j:Nat):(mt s b g n).si.z j=s.si.z j+if j=g then n else 0:=by
 show(if j=g then s.si.z g+n else s.si.z j)=_;by_cases a:j=g
 .subst a;simp
 simp[a]
theorem Xg(i j:Nat):aw (mt s b g n) i j=aw s i j+if i=b/\j=g then n else 0:=by
 unfold aw;have a:ca (mt s b g n) i j (mt s b g n).hs.n=ca s i j s.hs.n:=sw (λ_ _=>rfl) (λ_ _=>rfl);have c:bj (mt s b g n) i j (mt s b g n).ms.n=bj s i j s.ms.n:=pr (λ_ _=>rfl);rw[Hv,a,c];omega
theorem Xh(r:ar p s)(o:b<p.nb)(q:g<p.ns)(u:1<=n)(k:dx s b g+n<=200)(t:s.si.z g+n<=1048576):ar p (mt s b g n):=by
 have f:=r.fm;have e:b<s.on.n:=by rw[f.sh.n];exact o
 have hc:=(me (s:=s) (b:=b) (g:=g) f.moveN).1;have hs:vz p (mt s b g n).on:=by
  refine⟨f.sh.pl,f.sh.n,λi hi=>by rw[abq];exact f.sh.len i hi,λi hi j c => ?_⟩;have:=f.sh.num i hi j c;rw[Hv];by_cases d:i=b/\j=g
  .obtain⟨rfl,rfl⟩:=d;rw[if_pos ⟨rfl,rfl⟩];unfold dx at k;omega
  rw[if_neg d];omega
 refine⟨⟨hs,yg (wh f.sh0).1 hs,f.os4,f.ms8,f.lns,f.kind,f.line,f.hold,f.home,f.move,f.sin,f.son,f.sfn,λj c => ?_,f.sob,f.sfb⟩,λj c => ?_,r.orders⟩
 .have:=f.sib j c;rw[Vb];by_cases a:j=g
  .subst a;rw[if_pos rfl];omega
  rw[if_neg a];omega
 obtain⟨a1,l⟩:=ld (r.goods j c);refine ti ?_ λi hi => ?_
 .show cv (λi=>((mt s b g n).on.r i).z j) s.on.n=(mt s b g n).si.z j-s.so.z j+s.sf.z j;rw[Vb];by_cases a:j=g
  .subst a;rw[Cy (z:=λi=>(s.on.r i).z j) (m:=b) (n:=n) e λi hi=>by
    show((mt s b j n).on.r i).z j=_;rw[Hv];by_cases h:i=b<;>simp[h],if_pos rfl,a1]
   omega
  rw[ta (z':=λi=>(s.on.r i).z j) λi hi=>by
   show((mt s b g n).on.r i).z j=_;rw[Hv];simp[a],if_neg a,a1]
  omega
 rw[Xg];have:=l i hi
 split<;>omega
end
section
variable {p:Pl} {s:St} {l:Hs}
theorem Ak(hi:i<s.os.n):(ma s l).os.z i=s.os.z i:=by
 show(if i=s.os.n then(⟨0,l⟩:Od) else s.os.z i)=_;rw[if_neg (by omega)]
theorem E9:(ma s l).os.z s.os.n=⟨0,l⟩:=by
 show(if s.os.n=s.os.n then(⟨0,l⟩:Od) else s.os.z s.os.n)=_;rw[if_pos rfl]
theorem Nu{z:Nat->Hd}{o l:Int}:∀{n:Nat},(∀j,j<n->¬(z j).o=o)->keptS z o l n=0
 | 0,_=>rfl
 | n+1,h=>by
  simp only[keptS];rw[Nu (n:=n) λj a=>h j (by omega),if_neg λe=>h n (by omega) e.1]
  rfl
theorem Ug(h:g9 p s l=0):ar p (ma s l):=by
 obtain⟨B,w,D,K,G,E⟩:=Ld h;have r:=dp B;have f:=r.fm;have os4:=f.os4;have ln:∀j,j<l.n->((0<=(l.z j).o/\(l.z j).o<p.ns)/\1<=(l.z j).l/\(l.z j).l<=200)/\(l.z j).b=0/\(l.z j).n=0:=λj c=>by
  have a:=dk G j c;have b:=dk E j c;simp only[uq,py,Xxq,Bool.not_eq_false',bne_eq_false_iff_eq] at a b;have a1:=au a.1;have d:=au a.2;exact⟨⟨by omega,d⟩,b⟩
 have x:∀j,j<l.n->ki p (l.z j)=false:=λj c=>by
  obtain⟨⟨a1,d⟩,m,u⟩:=ln j c;unfold ki;rw[bw (by omega),bw (by omega),bw (by omega),bw (by omega)]
  rfl
 have t:∀j,j<s.hs.n->jw (ma s l) (s.hs.z j)=jw s (s.hs.z j):=λj c=>by
  have:=(i8 (f.home j c)).1;unfold jw;rw[Ak this.2]
 have v:∀b g,aw (ma s l) b g=aw s b g:=λb g=>by
  unfold aw;have H:ca (ma s l) b g (ma s l).hs.n=ca s b g s.hs.n:=sw (λ_ _=>rfl) t;have y:bj (ma s l) b g (ma s l).ms.n=bj s b g s.ms.n:=pr (λ_ _=>rfl);rw[H,y]
  rfl
 have k:∀i,i<(ma s l).os.n->i<s.os.n\/i=s.os.n:=λi hi=>by
  have:i<s.os.n+1:=hi;omega
 refine⟨⟨f.sh,f.sh0,by show s.os.n+1<=4;omega,f.ms8,λi hi => ?_,λi hi => ?_,λi hi j c => ?_,f.hold,λi hi => ?_,f.move,f.sin,f.son,f.sfn,f.sib,f.sob,f.sfb⟩,λg F => ?_,λi hi => ?_⟩
 .rcases k i hi with h|rfl
  .rw[Ak h];exact f.lns i h
  rw[E9];exact⟨w,D⟩
 .rcases k i hi with h|rfl
  .rw[Ak h];exact f.kind i h
  rw[E9];show(0:Int)<=0/\(0:Int)<=2;omega
 .rcases k i hi with h|rfl
  .rw[Ak h] at c ⊢;exact f.line i h j c
  rw[E9] at c ⊢;exact x j c
 .obtain⟨a1,d,m⟩:=i8 (f.home i hi);refine qf (s:=ma s l) ⟨a1.1,?_⟩ ⟨d.1,?_⟩ m
  .show _<s.os.n+1;have:=a1.2;show(s.hs.z i).o.toNat<s.os.n+1;omega
  show(s.hs.z i).l.toNat<((ma s l).os.z (s.hs.z i).o.toNat).ls.n;rw[Ak a1.2];exact d.2
 .obtain⟨a1,d⟩:=ld (r.goods g F);exact ti a1 λb J=>by rw[v];exact d b J
 rcases k i hi with h|rfl
 .have:=r.orders i h;unfold ch at this ⊢;rw[Ak h];exact this
 unfold ch;rw[E9];show(((0:Int)==1 && !ax l.n (λj=>jy (l.z j)))||ax l.n (λj=>cp 0 (l.z j) (keptS s.hs.z s.os.n j s.hs.n)))=false;rw[Xxq];refine⟨by simp,cu λj c => ?_⟩;obtain⟨-,m,u⟩:=ln j c;rw[Nu λq A e=>by have:=(i8 (f.home q A)).1;omega];unfold cp;rw[if_pos rfl,m,u]
 rfl
end
theorem tq{z:Nat->Int}{m:Nat}{n:Int}{k:Nat}(a:m<k)(h:∀i,i<k->z' i=z i+if i=m then n else 0):cv z' k=cv z k+n :=
 Cy a λi hi=>by rw[h i hi];by_cases e:i=m<;>simp[e]
theorem uh{z:Nat->Int}{k:Nat}(h:∀i,i<k->z' i=z i):cv z' k=cv z k:=ta h
def lf(x:St)(b g:Int)(k:Nat)(o l:Nat):Int:=if ((x.os.z o).ls.z l).o=g then keptV k x.hs.z o l b else 0
def B9(x:St)(b g:Int)(k:Nat):Int:=cv (λo=>cv (λl=>lf x b g k o l) (x.os.z o).ls.n) x.os.n
theorem ua{p:Pl}{x:St}(b g:Int):∀k,(∀j,j<k->jf p x (x.hs.z j)=false)->ax k (db x.hs.z)=false->ca x b g k=B9 x b g k
 | 0,_,_=>by
  unfold B9;rw[vv λo _=>vv λl _=>by unfold lf keptV;simp]
  rfl
 | k+1,h,hr=>by
  simp only[ca];rw[ua b g k (λj B=>h j (by omega)) (Hz hr)];obtain⟨t,w,y⟩:=i8 (h k (by omega));have key:∀o l,lf x b g (k+1) o l=lf x b g k o l+if o=(x.hs.z k).o.toNat/\l=(x.hs.z k).l.toNat then(if (x.hs.z k).b=b/\jw x (x.hs.z k)=g then(x.hs.z k).n else 0) else 0:=λo l=>by
   unfold lf;rw[Hi hr];by_cases f:o=(x.hs.z k).o.toNat/\l=(x.hs.z k).l.toNat;rotate_left
   .rw[if_neg f];have:bp (x.hs.z k) o l b=false:=by
     cases c:bp (x.hs.z k) o l b
     .rfl
     have:=fk c;exact absurd ⟨by omega,by omega⟩ f
    rw[this];simp
   rw[if_pos f];obtain⟨rfl,rfl⟩:=f;have v:(((x.hs.z k).o.toNat:Nat):Int)=(x.hs.z k).o:=by omega
   have s:(((x.hs.z k).l.toNat:Nat):Int)=(x.hs.z k).l:=by omega
   rw[v,s];by_cases m:jw x (x.hs.z k)=g
   .have a:((x.os.z (x.hs.z k).o.toNat).ls.z (x.hs.z k).l.toNat).o=g:=m;rw[if_pos a,if_pos a];by_cases q:(x.hs.z k).b=b
    .have c:bp (x.hs.z k) (x.hs.z k).o (x.hs.z k).l b=true:=by rw[<-q];exact wu _
     have r:(if (x.hs.z k).b=b/\jw x (x.hs.z k)=g then(x.hs.z k).n else 0)=(x.hs.z k).n:=if_pos ⟨q,m⟩;rw[c,r,if_pos rfl]
    have c:bp (x.hs.z k) (x.hs.z k).o (x.hs.z k).l b=false:=by
     cases c:bp (x.hs.z k) (x.hs.z k).o (x.hs.z k).l b
     .rfl
     exact absurd (fk c).2.2 q
    have r:(if (x.hs.z k).b=b/\jw x (x.hs.z k)=g then(x.hs.z k).n else 0)=0:=if_neg (λe=>q e.1);rw[c,r];simp
   have a:¬((x.os.z (x.hs.z k).o.toNat).ls.z (x.hs.z k).l.toNat).o=g:=m;rw[if_neg a,if_neg a,if_neg (λe=>m e.2)]
   rfl
  unfold B9;refine(tq t.2 λo A => ?_).symm;by_cases i:o=(x.hs.z k).o.toNat
  .rw[if_pos i];subst i;exact tq w.2 λl u=>by
    rw[key];by_cases d:l=(x.hs.z k).l.toNat
    .rw[if_pos ⟨rfl,d⟩,if_pos d]
    rw[if_neg (λe=>d e.2),if_neg d]
  rw[if_neg i,Int.add_zero];exact uh λl u=>by rw[key,if_neg (λe=>i e.1)];omega
def jc(x:Hd)(n:Int):Hd:=⟨x.o,x.l,x.b,x.n-n⟩
structure ep(s:St)(o l:Nat)(n:Int)(t:Tk)(x:St):Prop where
 on:x.on.n=s.on.n/\∀i,i<x.on.n->(x.on.r i).n=(s.on.r i).n/\∀j,j<(x.on.r i).n->(x.on.r i).z j=(s.on.r i).z j
 os:x.os.n=s.os.n/\∀i,i<x.os.n->(x.os.z i).k=(s.os.z i).k/\(x.os.z i).ls.n=(s.os.z i).ls.n/\∀j,j<(x.os.z i).ls.n->(x.os.z i).ls.z j=if i=o/\j=l then jc ((s.os.z i).ls.z j) (n-t.left) else(s.os.z i).ls.z j
 right:ax x.hs.n (db x.hs.z)=false
 kept:∀a b c:Int,keptV x.hs.n x.hs.z a b c=keptV s.hs.n s.hs.z a b c+if a=o/\b=l then t.took c else 0
 ms:x.ms.n=s.ms.n/\∀j,j<x.ms.n->x.ms.z j=s.ms.z j
 si:x.si.n=s.si.n/\∀j,j<x.si.n->x.si.z j=s.si.z j
 so:x.so.n=s.so.n/\∀j,j<x.so.n->x.so.z j=s.so.z j
 sf:x.sf.n=s.sf.n/\∀j,j<x.sf.n->x.sf.z j=s.sf.z j
theorem ep.same{l:Nat}{n:Int}{t:Tk}(h:ep s o l n t x)(k:ep s o l n t y):af x y:=by
 have e:∀i,i<x.os.n->i<y.os.n:=λi hi=>by rw[k.os.1,<-h.os.1];exact hi
 refine⟨⟨h.on.1.trans k.on.1.symm,λi hi => ?_⟩,⟨h.os.1.trans k.os.1.symm,λi hi => ?_⟩,Z2 h.right k.right λa b c=>(h.kept a b c).trans (k.kept a b c).symm,⟨h.ms.1.trans k.ms.1.symm,λj d=>(h.ms.2 j d).trans (k.ms.2 j (by rw[k.ms.1,<-h.ms.1];exact d)).symm⟩,⟨h.si.1.trans k.si.1.symm,λj d=>(h.si.2 j d).trans (k.si.2 j (by rw[k.si.1,<-h.si.1];exact d)).symm⟩,⟨h.so.1.trans k.so.1.symm,λj d=>(h.so.2 j d).trans (k.so.2 j (by rw[k.so.1,<-h.so.1];exact d)).symm⟩,⟨h.sf.1.trans k.sf.1.symm,λj d=>(h.sf.2 j d).trans (k.sf.2 j (by rw[k.sf.1,<-h.sf.1];exact d)).symm⟩⟩
 .have a:=h.on.2 i hi;have b:=k.on.2 i (by rw[k.on.1,<-h.on.1];exact hi);exact⟨a.1.trans b.1.symm,λj d=>(a.2 j d).trans (b.2 j (by rw[b.1,<-a.1];exact d)).symm⟩
 have a:=h.os.2 i hi;have b:=k.os.2 i (e i hi);exact⟨a.1.trans b.1.symm,a.2.1.trans b.2.1.symm,λj d=>(a.2.2 j d).trans (b.2.2 j (by rw[b.2.1,<-a.2.1];exact d)).symm⟩
section
variable {p:Pl} {s x:St} {o l:Nat} {n:Int} {t:Tk}
theorem ep.line(h:ep s o l n t x)(hi:i<s.os.n)(b:j<(s.os.z i).ls.n):(x.os.z i).ls.z j=if i=o/\j=l then jc ((s.os.z i).ls.z j) (n-t.left) else(s.os.z i).ls.z j:=by
 have a:=h.os.2 i (by rw[h.os.1];exact hi);exact a.2.2 j (by rw[a.2.1];exact b)
theorem ep.good(h:ep s o l n t x)(hi:i<s.os.n)(a:j<(s.os.z i).ls.n):((x.os.z i).ls.z j).o=((s.os.z i).ls.z j).o:=by
 rw[h.line hi a]
 split<;>rfl
theorem ep.keptS(h:ep s o l n t x)(f:cx p s)(e:cv (λb=>t.took b) 6=n-t.left)(a b:Int):Go.Proofs.YtbcacebifpagpagGreat.keptS x.hs.z a b x.hs.n=Go.Proofs.YtbcacebifpagpagGreat.keptS s.hs.z a b s.hs.n+if a=o/\b=l then n-t.left else 0:=by
 rw[<-yu x.hs.z a b _ h.right,<-yu s.hs.z a b _ f.hold];by_cases d:a=o/\b=l
 .rw[if_pos d,<-e];have:∀m,cv (λc=>keptV x.hs.n x.hs.z a b c) m=cv (λc=>keptV s.hs.n s.hs.z a b c) m+cv (λc=>t.took c) m:=λm=>by
   induction m with
   | zero=>rfl
   | succ m ih=>simp only[cv];rw[ih,h.kept,if_pos d];omega
  exact this 6
 rw[if_neg d,Int.add_zero];exact uh λc _=>by rw[h.kept,if_neg d];omega
theorem ep.home(h:ep s o l n t x)(f:cx p s)(F:o<s.os.n)(u:l<(s.os.z o).ls.n)(m:∀b,¬t.took b=0->0<=b/\b<p.nb):∀i,i<x.hs.n->jf p x (x.hs.z i)=false:=by
 intro i hi;have fx:=cz (cd h.right i hi);have e:=(o6 h.right hi (wu (x.hs.z i))).1;rw[h.kept] at e;have c:∀a,a<s.os.n->(x.os.z a).ls.n=(s.os.z a).ls.n:=λa v=>(h.os.2 a (by rw[h.os.1];exact v)).2.1;by_cases g:keptV s.hs.n s.hs.z (x.hs.z i).o (x.hs.z i).l (x.hs.z i).b=0
 .by_cases d:(x.hs.z i).o=o/\(x.hs.z i).l=l
  .rw[if_pos d,g] at e;have B:=m (x.hs.z i).b (by omega);have w:(x.hs.z i).o.toNat=o:=by omega
   have E:(x.hs.z i).l.toNat=l:=by omega
   refine qf ⟨by omega,by rw[h.os.1];omega⟩ ⟨by omega,?_⟩ B;rw[w,E,c o F];exact u
  rw[if_neg d,g] at e;omega
 obtain⟨y,r,-⟩:=tn f.hold g;obtain⟨a1,j,q⟩:=i8 (f.home _ y);obtain⟨k,D,A⟩:=fk r;rw[k,D] at j;rw[k] at a1;rw[A] at q;exact qf ⟨a1.1,by rw[h.os.1];exact a1.2⟩ ⟨j.1,by rw[c _ a1.2];exact j.2⟩ q
theorem ep.num(h:ep s o l n t x)(f:cx p s)(d:b<p.nb)(c:g<p.ns):(x.on.r b).z g=(s.on.r b).z g:=by
 have a:b<s.on.n:=by rw[f.sh.n];exact d
 have r:=h.on.2 b (by rw[h.on.1];exact a);exact r.2 g (by rw[r.1,f.sh.len b a];exact c)
theorem ep.formed(h:ep s o l n t x)(f:cx p s)(r:o<s.os.n)(m:l<(s.os.z o).ls.n)(k:∀b,¬t.took b=0->0<=b/\b<p.nb)(v:0<=n-t.left)(u:n-t.left<=((s.os.z o).ls.z l).n):cx p x:=by
 have q:=(wh f.sh0).1;have hs:vz p x.on:=⟨f.sh.pl,h.on.1.trans f.sh.n,λi hi=>(h.on.2 i hi).1.trans (f.sh.len i (by rw[<-h.on.1];exact hi)),λi hi j a=>by
  have e:i<s.on.n:=by rw[<-h.on.1];exact hi
  rw[h.num f (by rw[<-f.sh.n];exact e) a];exact f.sh.num i e j a⟩
 have d:∀i,i<x.os.n->i<s.os.n:=λi hi=>by rw[<-h.os.1];exact hi
 refine⟨hs,yg q hs,by rw[h.os.1];exact f.os4,by rw[h.ms.1];exact f.ms8,λi hi=>by rw[(h.os.2 i hi).2.1];exact f.lns i (d i hi),λi hi=>by rw[(h.os.2 i hi).1];exact f.kind i (d i hi),λi hi j a => ?_,h.right,h.home f r m k,λi hi => ?_,h.si.1.trans f.sin,h.so.1.trans f.son,h.sf.1.trans f.sfn,λj a => ?_,λj a => ?_,λj a => ?_⟩
 .have g:j<(s.os.z i).ls.n:=by rw[<-(h.os.2 i hi).2.1];exact a
  rw[(h.os.2 i hi).2.2 j a];by_cases c:i=o/\j=l
  .rw[if_pos c];obtain⟨rfl,rfl⟩:=c;obtain⟨b1,b2,b3,b4⟩:=er (f.line i (d i hi) j g);unfold ki jc;rw[bw (by show _/\_;dsimp only;omega),bw (by show _/\_;dsimp only;omega),bw (by show _/\_;dsimp only;omega),bw (by show _/\_;dsimp only;omega)]
   rfl
  rw[if_neg c];exact f.line i (d i hi) j g
 .rw[h.ms.2 i hi];exact f.move i (by rw[<-h.ms.1];exact hi)
 .rw[h.si.2 j (by rw[h.si.1,f.sin];exact a)];exact f.sib j a
 .rw[h.so.2 j (by rw[h.so.1,f.son];exact a)];exact f.sob j a
 rw[h.sf.2 j (by rw[h.sf.1,f.sfn];exact a)];exact f.sfb j a
theorem ep.held(h:ep s o l n t x)(f:cx p s)(fx:cx p x)(w:o<s.os.n)(y:l<(s.os.z o).ls.n)(b g:Int):ca x b g x.hs.n=ca s b g s.hs.n+if ((s.os.z o).ls.z l).o=g then t.took b else 0:=by
 rw[ua b g _ fx.home fx.hold,ua b g _ f.home f.hold];have u:∀a,a<s.os.n->(x.os.z a).ls.n=(s.os.z a).ls.n:=λa v=>(h.os.2 a (by rw[h.os.1];exact v)).2.1;have key:∀i,i<s.os.n->∀j,j<(s.os.z i).ls.n->lf x b g x.hs.n i j=lf s b g s.hs.n i j+if i=o/\j=l then(if ((s.os.z o).ls.z l).o=g then t.took b else 0) else 0:=λi hi j k=>by
  unfold lf;rw[h.good hi k,h.kept];by_cases d:i=o/\j=l
  .have r:(if ((i:Nat):Int)=o/\((j:Nat):Int)=l then t.took b else 0)=t.took b:=if_pos (by omega);rw[r,if_pos d];obtain⟨rfl,rfl⟩:=d;by_cases q:((s.os.z i).ls.z j).o=g<;>simp[q]
  have r:(if ((i:Nat):Int)=o/\((j:Nat):Int)=l then t.took b else 0)=0:=if_neg (by omega);rw[r,if_neg d];by_cases q:((s.os.z i).ls.z j).o=g<;>simp[q]
 unfold B9;rw[h.os.1];refine tq w λi hi => ?_;rw[u i hi];by_cases m:i=o
 .subst m;rw[if_pos rfl];exact tq y λj k=>by
   rw[key i hi j k];by_cases c:j=l
   .rw[if_pos ⟨rfl,c⟩,if_pos c]
   rw[if_neg (λe=>c e.2),if_neg c]
 rw[if_neg m,Int.add_zero];exact uh λj k=>by rw[key i hi j k,if_neg (λe=>m e.1),Int.add_zero]
theorem ep.avail(h:ep s o l n t x)(f:cx p s)(fx:cx p x)(i:o<s.os.n)(c:l<(s.os.z o).ls.n)(e:b<p.nb)(a:g<p.ns):aw x b g=aw s b g-if ((s.os.z o).ls.z l).o=g then t.took b else 0:=by
 unfold aw;rw[h.num f e a,h.held f fx i c,h.ms.1,pr λj d=>h.ms.2 j (by rw[h.ms.1];exact d)];omega
theorem ep.isRight(h:ep s o l n t x)(r:ar p s)(F:o<s.os.n)(A:l<(s.os.z o).ls.n)(L:(s.os.z o).k=1)(D:∀b,¬t.took b=0->0<=b/\b<p.nb)(J:0<=n-t.left)(H:n-t.left<=((s.os.z o).ls.z l).n)
  (E:∀b:Nat,b<p.nb->t.took b<=aw s b ((s.os.z o).ls.z l).o.toNat) (P:∀b,0<=t.took b) (v:cv (λb=>t.took b) 6=n-t.left):ar p x:=by
 have f:=r.fm;have fx:=h.formed f F A D J H;refine⟨fx,λg d => ?_,λi hi => ?_⟩
 .obtain⟨a1,K⟩:=ld (r.goods g d);refine ti ?_ λb y => ?_
  .have e:cv (λi=>(x.on.r i).z g) x.on.n=cv (λi=>(s.on.r i).z g) s.on.n:=by
    rw[h.on.1];exact ta λi hi=>h.num f (by rw[<-f.sh.n];exact hi) d
   rw[e,a1,h.si.2 g (by rw[h.si.1,f.sin];exact d),h.so.2 g (by rw[h.so.1,f.son];exact d),h.sf.2 g (by rw[h.sf.1,f.sfn];exact d)]
  rw[h.avail f fx F A y d];have S:=K b y;by_cases m:((s.os.z o).ls.z l).o=g
  .rw[if_pos m];have:=E b y;rw[m] at this;have e:((g:Nat):Int).toNat=g:=rfl;rw[e] at this;omega
  rw[if_neg m];omega
 have u:i<s.os.n:=by rw[<-h.os.1];exact hi
 have w:=r.orders i u;obtain⟨M,G,Q⟩:=h.os.2 i hi;have B:=λj a=>h.line (i:=i) (j:=j) u a;unfold ch at w ⊢;rw[Xxq] at w ⊢;rw[M,G];refine⟨?_,cu λj a => ?_⟩
 .rw[<-w.1]
  congr 2
  refine pe λj a => ?_;rw[B j a]
  split<;>rfl
 have c:=dk w.2 j a;rw[h.keptS f v,B j a];by_cases q:i=o/\j=l
 .obtain⟨rfl,rfl⟩:=q;rw[if_pos ⟨rfl,rfl⟩,if_pos ⟨rfl,rfl⟩];rw[L] at c ⊢;unfold cp at c ⊢;simp only[jc] at c ⊢;rw[if_neg (by decide),if_neg (by decide)] at c ⊢;simp only[Bool.not_eq_false',beq_iff_eq] at c ⊢;omega
 rw[if_neg q,if_neg (λe=>q ⟨by omega,by omega⟩),Int.add_zero];exact c
end
def y9(s:St)(order line:Int):Bool := !(inB order 0 ((s.os.n:Int)-1)) || !(inB line 0 (((s.os.z order.toNat).ls.n:Int)-1))
def rj(p:Pl)(s:St)(order line n but:Int):Bool:=y9 s order line || !(inB n 0 200)||((but !=-1) && !(inB but 0 ((p.nb:Int)-1)))
def fp(s:St)(order line:Int):Hd:=(s.os.z order.toNat).ls.z line.toNat
def fc(p:Pl)(s:St)(order line n but:Int):Int :=
 if ag p s=0 then(if rj p s order line n but then 3 else if (s.os.z order.toNat).k=1 then(if (fp s order line).n<n then 3 else 0) else 6) else ag p s
def Pm(p:Pl)(s:St)(good:Int)(n but:Int):Tk:=Tk.go (λb=>aw s b.toNat good.toNat) n (fg p but)
def Ct(p:Pl)(s:St)(order line n but:Int):Int:=if fc p s order line n but=0 then(Pm p s (fp s order line).o n but).left else 0
def Ah(p:Pl)(s:St)(order line n but:Int)(x:St):Prop:=(fc p s order line n but=0->ep s order.toNat line.toNat n (Pm p s (fp s order line).o n but) x)/\(¬fc p s order line n but=0->Er x)
section
variable {p:Pl} {s:St} {order line n but:Int}
theorem It(h:¬ag p s=0):fc p s order line n but=ag p s:=by unfold fc;rw[if_neg h]
theorem Av(h:ag p s=0)(a:rj p s order line n but=true):fc p s order line n but=3:=by unfold fc;rw[if_pos h,if_pos a]
theorem Fq(h:ag p s=0)(b:rj p s order line n but=false)(a:¬(s.os.z order.toNat).k=1):fc p s order line n but=6:=by unfold fc;rw[if_pos h,b,if_neg a];rfl
theorem Fp(h:ag p s=0)(c:rj p s order line n but=false)(b:(s.os.z order.toNat).k=1)(a:(fp s order line).n<n):fc p s order line n but=3:=by unfold fc;rw[if_pos h,c,if_pos b,if_pos a];rfl
theorem Ir(h:ag p s=0)(c:rj p s order line n but=false)(b:(s.os.z order.toNat).k=1)(a:¬(fp s order line).n<n):fc p s order line n but=0:=by unfold fc;rw[if_pos h,c,if_pos b,if_neg a];rfl
theorem Iu(h:rj p s order line n but=false):(0<=order/\order.toNat<s.os.n)/\(0<=line/\line.toNat<(s.os.z order.toNat).ls.n)/\(0<=n/\n<=200)/\(but = -1\/0<=but/\but<p.nb):=by
 simp only[rj,y9,Xxq,Bool.not_eq_false',Bool.and_eq_false_iff,bne_eq_false_iff_eq] at h;obtain⟨⟨⟨a,b⟩,c⟩,d⟩:=h;have a:=au a;have b:=au b;have c:=au c;refine⟨by omega,by omega,c,?_⟩;rcases d with d|d
 .exact Or.inl d
 have:=au d;exact Or.inr (by omega)
structure ox(p:Pl)(s:St)(order line n but:Int):Prop where
 st:ag p s=0
 o0:0<=order
 on:order.toNat<s.os.n
 l0:0<=line
 ln:line.toNat<(s.os.z order.toNat).ls.n
 n0:0<=n
 n2:n<=200
 bt:but = -1\/0<=but/\but<p.nb
 kd:(s.os.z order.toNat).k=1
 bk:n<=(fp s order line).n
theorem allocIn(h:fc p s order line n but=0):ox p s order line n but:=by
 by_cases e:ag p s=0
 .cases f:rj p s order line n but
  .obtain⟨a,b,c,d⟩:=Iu f;by_cases g:(s.os.z order.toNat).k=1
   .by_cases i:(fp s order line).n<n
    .rw[Fp e f g i] at h;exact absurd h (by decide)
    exact⟨e,a.1,a.2,b.1,b.2,c.1,c.2,d,g,by omega⟩
   rw[Fq e f g] at h;exact absurd h (by decide)
  rw[Av e f] at h;exact absurd h (by decide)
 rw[It e] at h;exact absurd h e
theorem ox.good(h:ox p s order line n but):0<=(fp s order line).o/\(fp s order line).o<p.ns:=(er ((dp h.st).fm.line _ h.on _ h.ln)).1
theorem ox.way(h:ox p s order line n but):∀x,x∈fg p but->0<=x/\x<p.nb:=λx hx=>Gp (yi.1 hx).1
theorem ox.tk(h:ox p s order line n but){l:List Int}(c:l.Pairwise (λx y=>¬x=y))(a:∀x,x∈l->0<=x/\x<p.nb):Ar (λb=>aw s b.toNat (fp s order line).o.toNat) n l (Tk.go (λb=>aw s b.toNat (fp s order line).o.toNat) n l):=by
 have r:=dp h.st;have d:=h.good;refine ado h.n0 c (λx hx => ?_) (λx hx => ?_)
 .have:=a x hx;exact(ld (r.goods _ (by omega))).2 _ (by omega)
 have:=a x hx;have:=r.fm.sh.pl.nb6;omega
theorem ep.rightAt{l:List Int}{t:Tk}(h:ox p s order line n but)(e:∀x,x∈l->0<=x/\x<p.nb)(k:Ar (λb=>aw s b.toNat (fp s order line).o.toNat) n l t)(T:ep s order.toNat line.toNat n t x):ar p x:=by
 have r:=dp h.st;have c:=h.bk;have f:=k.left0;have g:=k.leftn;refine T.isRight r h.on h.ln h.kd (λb c => ?_) (by omega) (by unfold fp at c;omega) (λb c => ?_) k.took0 k.sum
 .apply Classical.byContradiction
  intro hc;refine c (k.other b λa=>hc ?_);exact e b a
 by_cases a:((b:Nat):Int)∈l
 .exact k.had b a
 rw[k.other b a];have d:=h.good;exact(ld (r.goods _ (by unfold fp at d;omega))).2 b c
end
def H4(x:Hd)(c:Nat)(v:Int):Hd:=if c=0 then ⟨v,x.l,x.b,x.n⟩ else if c=1 then ⟨x.o,v,x.b,x.n⟩ else if c=2 then ⟨x.o,x.l,v,x.n⟩ else ⟨x.o,x.l,x.b,v⟩
def Ab(h:Hs)(j c:Nat)(v:Int):Hs:=⟨h.a,h.n,h.c,λi=>if i=j then H4 (h.z i) c v else h.z i⟩
def Dm(os:Os)(o l c:Nat)(v:Int):Os:=⟨os.a,os.n,os.c,λi=>if i=o then ⟨(os.z i).k,Ab (os.z i).ls l c v⟩ else os.z i⟩
def setLine(s:St)(o l c:Nat)(v:Int):St:=⟨s.on,Dm s.os o l c v,s.hs,s.ms,s.si,s.so,s.sf⟩
def withHolds(s:St)(h:Hs):St:=⟨s.on,s.os,h,s.ms,s.si,s.so,s.sf⟩
theorem re{n:Nat}(hi:i<n)(hc:c<4):(ay n z).getD (i*4+c) default=(dc (z i)).getD c default:=by
 simp only[List.getD,xv n z i c hi hc]
theorem Ob{h:Hs}{v:Int}(hc:c<4)(q:Nat)(k:q<h.n*4):
  (if q=j*4+c then Value.int .i64 v else(ay h.n h.z).getD q default)=(ay h.n (Ab h j c v).z).getD q default:=by
 have hd:q=q/4*4+q%4:=by omega
 have hi:q/4<h.n:=by omega
 have a:q%4<4:=by omega
 have i:=re (z:=h.z) hi a;have f:=re (z:=(Ab h j c v).z) hi a;rw[<-hd] at i f;rw[i,f];show _=(dc (if q/4=j then H4 (h.z (q/4)) c v else h.z (q/4))).getD (q%4) default;by_cases e:q/4=j
 .rw[if_pos e];by_cases d:q=j*4+c
  .rw[if_pos d];have:q%4=c:=by omega
   rw[this];have b:c=0\/c=1\/c=2\/c=3:=by omega
   rcases b with rfl|rfl|rfl|rfl<;>rfl
  rw[if_neg d];have b:c=0\/c=1\/c=2\/c=3:=by omega
  have g:q%4=0\/q%4=1\/q%4=2\/q%4=3:=by omega
  rcases b with rfl|rfl|rfl|rfl<;>rcases g with a|a|a|a<;>first|(exfalso;omega)|(rw[a];rfl)
 rw[if_neg e,if_neg (by omega)]
theorem kq.setLine{s:Os}{B:Nat}(h:kq A w s)(D:o<s.n)(m:(s.z o).ls.a=some ⟨B,0,none⟩)(l c:Nat)(hc:c<4)(v:Int):kq A (w.setCell ⟨B,l*4+c,none⟩ (.int .i64 v)) (Dm s o l c v):=by
 obtain⟨B',d,P,H,S,G⟩:=h.lines o D;rw[m] at d;simp only[Qkx,Qkz,and_true] at d;subst d;have u:∀i,(Dm s o l c v).z i=if i=o then ⟨(s.z i).k,Ab (s.z i).ls l c v⟩ else s.z i:=λ_=>rfl;have f:∀i,qy ((Dm s o l c v).z i)=qy (s.z i):=λi=>by
  rw[u];by_cases b:i=o
  .rw[if_pos b];rfl
  rw[if_neg b]
 have r:∀i,((Dm s o l c v).z i).ls.a=(s.z i).ls.a:=λi=>by
  rw[u];by_cases b:i=o
  .rw[if_pos b];rfl
  rw[if_neg b]
 refine⟨h.le,h.cap,λM => ?_,λi hi => ?_,λi j x E=>by rw[r,r];exact h.apart i j x E,h.room.set _ _ _⟩
 .obtain⟨g,a1,t,p⟩:=h.list M;refine⟨g,a1,t,(p.other (a:=⟨B,l*4+c,none⟩) (Blk.ne2 p G (by decide)) _).congr λj E => ?_⟩;show _=(jq s.n (Dm s o l c v).z).getD j default;rw[zw λi _=>f i]
 rw[u];by_cases b:i=o
 .subst b;rw[if_pos rfl];exact⟨B,m,P,H,S,(G.set (l*4+c) (.int .i64 v)).congr λq J=>Ob hc q J⟩
 rw[if_neg b];obtain⟨C,a1,t,p,K,Q⟩:=h.lines i hi;refine⟨C,a1,t,p,K,Q.other (a:=⟨B,l*4+c,none⟩) (λe => ?_) _⟩;have L:C=B:=e;subst L;rcases Nat.lt_or_gt_of_ne b with y|F
 .exact h.apart i o y D (a1.trans m.symm)
 exact h.apart o i F hi (m.trans a1.symm)
theorem ai.setLine{B:Nat}(h:ai A w s)(j:o<s.os.n)(e:(s.os.z o).ls.a=some ⟨B,0,none⟩)(l c:Nat)(hc:c<4)(v:Int):ai A (w.setCell ⟨B,l*4+c,none⟩ (.int .i64 v)) (Go.Proofs.YtbcacebifpagpagGreat.setLine s o l c v):=by
 obtain⟨B',d,-,-,-,b⟩:=h.os.lines o j;rw[e] at d;simp only[Qkx,Qkz,and_true] at d;subst d;refine⟨?_,λi hi=>(h.rows i hi).other b (by decide) _ _,h.rapart,h.os.setLine j e l c hc v,h.hs.other b (by decide) _ _,h.ms.other b (by decide) _ _,h.msr.set _ _ _,h.si.other b (by decide) _ _,h.so.other b (by decide) _ _,h.sf.other b (by decide) _ _,h.aio,h.aif,h.aof,h.ari⟩;obtain⟨g,m,a1,k,p,f⟩:=h.on;exact⟨g,m,a1,k,p,f.other (a:=⟨B,l*4+c,none⟩) (Blk.ne2 f b (by decide)) _⟩
theorem ai.withHolds{h:Hs}(k:ai A w s)(a:cw A 61 w h):ai A w (Go.Proofs.YtbcacebifpagpagGreat.withHolds s h):=
 ⟨k.on,k.rows,k.rapart,k.os,a,k.ms,k.msr,k.si,k.so,k.sf,k.aio,k.aif,k.aof,k.ari⟩
theorem ai.lineCell(h:ai A w s)(f:o<s.os.n)(p:l<(s.os.z o).ls.n):∃g B,s.os.a=some ⟨g,0,none⟩/\A<=g/\g<w.heap.size/\w.cell? ⟨g,o*2+1,none⟩=some (.slice (some ⟨B,0,none⟩) (s.os.z o).ls.n (s.os.z o).ls.c)/\(s.os.z o).ls.a=some ⟨B,0,none⟩/\A<=B/\B<w.heap.size/\(s.os.z o).ls.n<=(s.os.z o).ls.c/\(s.os.z o).ls.c<=maxLen/\(∀j,w.frozen? ⟨B,j,none⟩=false) /\
  w.cell? ⟨B,l*4,none⟩=some (.int .i64 ((s.os.z o).ls.z l).o)/\w.cell? ⟨B,l*4+1,none⟩=some (.int .i64 ((s.os.z o).ls.z l).l)/\w.cell? ⟨B,l*4+2,none⟩=some (.int .i64 ((s.os.z o).ls.z l).b)/\w.cell? ⟨B,l*4+3,none⟩=some (.int .i64 ((s.os.z o).ls.z l).n):=by
 obtain⟨g,k,m,i⟩:=h.os.list (by omega);obtain⟨B,b1,b2,b3,b4,b5⟩:=h.os.lines o f;have e:=i.cell (j:=o*2+1) (by omega);rw[qc (z:=s.os.z) f (show 1<2 by decide)] at e;have c1:w.cell? ⟨g,o*2+1,none⟩=some (.slice (s.os.z o).ls.a (s.os.z o).ls.n (s.os.z o).ls.c):=e;rw[b1] at c1;have d:∀c,c<4->w.cell? ⟨B,l*4+c,none⟩=some ((dc ((s.os.z o).ls.z l)).getD c default):=λc hc=>by
  rw[<-re (z:=(s.os.z o).ls.z) p hc];exact b5.cell (by omega)
 exact⟨g,B,k,m,i.lt,c1,b1,b2,b5.lt,b3,b4,λj=>b5.frozen j,d 0 (by decide),d 1 (by decide),d 2 (by decide),d 3 (by decide)⟩
theorem pn{v:Int}(i j:Nat):((Go.Proofs.YtbcacebifpagpagGreat.setLine s o l c v).os.z i).ls.z j=if i=o/\j=l then H4 ((s.os.z i).ls.z j) c v else(s.os.z i).ls.z j:=by
 show(if i=o then(⟨(s.os.z i).k,Ab (s.os.z i).ls l c v⟩:Od) else s.os.z i).ls.z j=_;by_cases hi:i=o
 .rw[if_pos hi];show(if j=l then H4 ((s.os.z i).ls.z j) c v else(s.os.z i).ls.z j)=_;by_cases a:j=l
  .rw[if_pos a,if_pos ⟨hi,a⟩]
  rw[if_neg a,if_neg (λe=>a e.2)]
 rw[if_neg hi,if_neg (λe=>hi e.1)]
theorem sy{v:Int}(i:Nat):((Go.Proofs.YtbcacebifpagpagGreat.setLine s o l c v).os.z i).k=(s.os.z i).k:=by
 show(if i=o then(⟨(s.os.z i).k,Ab (s.os.z i).ls l c v⟩:Od) else s.os.z i).k=_;by_cases hi:i=o
 .rw[if_pos hi]
 rw[if_neg hi]
theorem dr{v:Int}(i:Nat):((Go.Proofs.YtbcacebifpagpagGreat.setLine s o l c v).os.z i).ls.n=(s.os.z i).ls.n/\((Go.Proofs.YtbcacebifpagpagGreat.setLine s o l c v).os.z i).ls.a=(s.os.z i).ls.a/\((Go.Proofs.YtbcacebifpagpagGreat.setLine s o l c v).os.z i).ls.c=(s.os.z i).ls.c:=by
 show(if i=o then(⟨(s.os.z i).k,Ab (s.os.z i).ls l c v⟩:Od) else s.os.z i).ls.n=_/\(if i=o then(⟨(s.os.z i).k,Ab (s.os.z i).ls l c v⟩:Od) else s.os.z i).ls.a=_/\(if i=o then(⟨(s.os.z i).k,Ab (s.os.z i).ls l c v⟩:Od) else s.os.z i).ls.c=_;by_cases hi:i=o
 .rw[if_pos hi];exact⟨rfl,rfl,rfl⟩
 rw[if_neg hi];exact⟨rfl,rfl,rfl⟩
theorem H7{z:Nat->Int}{m:Nat}:∀{k:Nat},m<k->(∀i,i<k->0<=z i)->z m<=cv z k
 | k+1,hm,h=>by
  simp only[cv];have b:0<=cv z k:=by
   have:∀q,q<=k->0<=cv z q:=λq=>by
    induction q with
    | zero=>intro _;exact Int.le_refl _
    | succ q ih=>intro c;simp only[cv];have:=ih (by omega);have:=h q (by omega);omega
   exact this k nlr
  by_cases a:m=k
  .subst a;omega
  have:=H7 (z:=z) (m:=m) (k:=k) (by omega) (λi hi=>h i (by omega));have:=h k (by omega);omega
theorem O9{n:Nat}(a:ax n (db z)=false)(o l:Int)(d:b<6):keptV n z o l b<=keptS z o l n:=by
 rw[<-yu z o l n a];exact H7 (z:=λb=>keptV n z o l b) d λi _=>(Ed (λj c=>(cz (cd a j c)).2.2.2) o l i).1
theorem L9(r:ar p x)(hi:i<x.os.n)(c:j<(x.os.z i).ls.n)(d:(x.os.z i).k=1):((x.os.z i).ls.z j).b+((x.os.z i).ls.z j).n+keptS x.hs.z i j x.hs.n=((x.os.z i).ls.z j).l/\((x.os.z i).ls.z j).l<=200/\0<=((x.os.z i).ls.z j).b:=by
 have w:=r.orders i hi;unfold ch at w;rw[Xxq] at w;have a:=dk w.2 j c;rw[d] at a;unfold cp at a;rw[if_neg (by decide),if_neg (by decide)] at a;simp only[Bool.not_eq_false',beq_iff_eq] at a;have b:=er (r.fm.line i hi j c);exact⟨a,by omega,by omega⟩
theorem ep.congr{n:Int}{t d:Tk}(h:ep s o l n t x)(g:d.left=t.left)(f:∀c,d.took c=t.took c):ep s o l n d x :=
 ⟨h.on,⟨h.os.1,λi hi=>⟨(h.os.2 i hi).1,(h.os.2 i hi).2.1,λj e=>by rw[g];exact(h.os.2 i hi).2.2 j e⟩⟩,h.right,λa b c=>by rw[f];exact h.kept a b c,h.ms,h.si,h.so,h.sf⟩
theorem ep.stepZero{n:Int}{t:Tk}{av:Int->Int}{b:Int}(h:ep s o l n t x)(a:min t.left (av b)=0):ep s o l n (t.step av b) x :=
 h.congr (by show t.left-min t.left (av b)=t.left;omega) λc=>by
  show(t.took c+if c=b then min t.left (av b) else 0)=t.took c;rw[a]
  split<;>omega
def k9(o l:Nat)(b m:Int):Hd:=⟨o,l,b,m⟩
theorem ep.start{n:Int}(f:ax s.hs.n (db s.hs.z)=false)(hx:af x s):ep s o l n ⟨n,λ_=>0⟩ x:=by
 refine⟨hx.on,⟨hx.os.1,λi hi=>⟨(hx.os.2 i hi).1,(hx.os.2 i hi).2.1,λj d => ?_⟩⟩,?_,λa b c => ?_,hx.ms,hx.si,hx.so,hx.sf⟩
 .rw[(hx.os.2 i hi).2.2 j d];by_cases e:i=o/\j=l
  .rw[if_pos e];show _=(⟨_,_,_,_-(n-n)⟩:Hd);rw[Int.sub_self,Int.sub_zero]
  rw[if_neg e]
 .rw[hx.hs.1,Gz λj d=>hx.hs.2 j (by rw[hx.hs.1];exact d)];exact f
 rw[hx.hs.1,zy λj d=>hx.hs.2 j (by rw[hx.hs.1];exact d)];show _=_+if _ then(0:Int) else 0
 split<;>omega
section
variable {p:Pl} {s x:St} {order line n but:Int} {l:List Int} {t:Tk} {b:Int}
theorem ep.addE(h:ox p s order line n but)(g:∀x,x∈l->0<=x/\x<p.nb)(k:Ar (λb=>aw s b.toNat (fp s order line).o.toNat) n l t)(T:ep s order.toNat line.toNat n t x)(u:0<=b/\b<p.nb){m:Int}(v:0<m)(w:m<=t.left):
  Go.Proofs.YtbcacebifpagpagGreat.addE x.hs.n x.hs.z (k9 order.toNat line.toNat b m)=0:=by
 have r:=T.rightAt h g k;have nb6:=r.fm.sh.pl.nb6;have c:order.toNat<x.os.n:=by rw[T.os.1];exact h.on
 have e:=T.os.2 order.toNat c;have d:line.toNat<(x.os.z order.toNat).ls.n:=by rw[e.2.1];exact h.ln
 obtain⟨a1,F,H⟩:=L9 r c d (by rw[e.1];exact h.kd);have f:=e.2.2 line.toNat d;rw[if_pos ⟨rfl,rfl⟩] at f;have G:((x.os.z order.toNat).ls.z line.toNat).n=(fp s order line).n-(n-t.left):=by rw[f];rfl
 have D:=h.bk;have A:=k.leftn;obtain⟨a,rfl⟩:=Qzz u.1;have E:=O9 T.right order.toNat line.toNat (b:=a) (by omega);have os4:=r.fm.os4;have y:=(r.fm.lns _ c).2;have q:ie (k9 order.toNat line.toNat a m)=true:=by
  unfold ie k9;have B:=(tm (z:=x.hs.z) (order.toNat:Nat) (line.toNat:Nat) x.hs.n λj i=>(cz (cd T.right j i)).2.2.2).1;rw[bw (by dsimp only;omega),bw (by dsimp only;omega),bw (by dsimp only;omega),bw (by dsimp only;omega)]
  rfl
 rw[Uy T.right q,if_neg];show ¬200<keptV x.hs.n x.hs.z (order.toNat:Nat) (line.toNat:Nat) a+m;omega
theorem ep.stepAdd{y:Hs}{av:Int->Int}(T:ep s order.toNat line.toNat n t x)(F:order.toNat<s.os.n)(G:line.toNat<(s.os.z order.toNat).ls.n){m:Int}(p:min t.left (av b)=m)(w:Go.Proofs.YtbcacebifpagpagGreat.addE x.hs.n x.hs.z (k9 order.toNat line.toNat b m)=0)(B:Eo x.hs.n x.hs.z (k9 order.toNat line.toNat b m) y):
  ep s order.toNat line.toNat n (t.step av b) (withHolds (setLine x order.toNat line.toNat 3 (((x.os.z order.toNat).ls.z line.toNat).n-m)) y):=by
 obtain⟨E,D⟩:=B.right w;refine⟨T.on,⟨T.os.1,λi hi => ?_⟩,E,λa c d => ?_,T.ms,T.si,T.so,T.sf⟩
 .have q:i<x.os.n:=hi;have e:=T.os.2 i q;have r:=(dr (s:=x) (o:=order.toNat) (l:=line.toNat) (c:=3) (v:=((x.os.z order.toNat).ls.z line.toNat).n-m) i).1;refine⟨(sy i).trans e.1,r.trans e.2.1,λj A => ?_⟩;have h:j<(x.os.z i).ls.n:=by rw[<-r];exact A
  show((setLine x order.toNat line.toNat 3 (((x.os.z order.toNat).ls.z line.toNat).n-m)).os.z i).ls.z j=_;rw[pn,e.2.2 j h];by_cases f:i=order.toNat/\j=line.toNat
  .rw[if_pos f,if_pos f,if_pos f];obtain⟨rfl,rfl⟩:=f;have u:=e.2.2 line.toNat h;rw[if_pos ⟨rfl,rfl⟩] at u;rw[u];show(⟨_,_,_,_-(n-t.left)-m⟩:Hd)=⟨_,_,_,_-(n-(t.left-min t.left (av b)))⟩;rw[p]
   congr 1
   omega
  rw[if_neg f,if_neg f,if_neg f]
 show keptV y.n y.z a c d=_;rw[D,T.kept];show _=_+if _ then t.took d+(if d=b then min t.left (av b) else 0) else 0;rw[p];by_cases g:a=order.toNat/\c=line.toNat
 .rw[if_pos g,if_pos g];by_cases hd:d=b
  .have:bp (k9 order.toNat line.toNat b m) a c d=true:=by
    unfold bp k9;simp[g,hd]
   rw[this,if_pos hd,if_pos rfl];show _+m=_;omega
  have:bp (k9 order.toNat line.toNat b m) a c d=false:=by
   cases k:bp (k9 order.toNat line.toNat b m) a c d
   .rfl
   exact absurd (fk k).2.2.symm hd
  rw[this,if_neg hd];simp
 have:bp (k9 order.toNat line.toNat b m) a c d=false:=by
  cases k:bp (k9 order.toNat line.toNat b m) a c d
  .rfl
  have:=fk k;exact absurd ⟨this.1.symm,this.2.1.symm⟩ g
 rw[this,if_neg g,if_neg g];simp
end
structure i6(p:Pl)(s:St)(o l:Nat)(n:Int):Prop where
 fm:cx p s
 av:∀b,b<p.nb->0<=aw s b ((s.os.z o).ls.z l).o.toNat
 on:o<s.os.n
 ln:l<(s.os.z o).ls.n
 n0:0<=n
 bk:n<=((s.os.z o).ls.z l).n
 sum:((s.os.z o).ls.z l).n+keptS s.hs.z o l s.hs.n<=200
def avT(s:St)(o l:Nat)(b:Int):Int:=aw s b.toNat ((s.os.z o).ls.z l).o.toNat
section
variable {p:Pl} {s x:St} {o l:Nat} {n:Int} {L:List Int} {t:Tk}
theorem i6.good(h:i6 p s o l n):0<=((s.os.z o).ls.z l).o/\((s.os.z o).ls.z l).o<p.ns:=(er (h.fm.line _ h.on _ h.ln)).1
theorem i6.tk(h:i6 p s o l n)(b:L.Pairwise (λx y=>¬x=y))(a:∀x,x∈L->0<=x/\x<p.nb):Ar (avT s o l) n L (Tk.go (avT s o l) n L):=by
 refine ado h.n0 b (λx hx => ?_) (λx hx => ?_)
 .have:=a x hx;exact h.av _ (by omega)
 have:=a x hx;have:=h.fm.sh.pl.nb6;omega
theorem i6.inBins(d:∀x,x∈L->0<=x/\x<p.nb)(k:Ar (avT s o l) n L t):∀b,¬t.took b=0->0<=b/\b<p.nb:=λb c=>by
 apply Classical.byContradiction
 intro hc;exact c (k.other b λa=>hc (d b a))
theorem i6.formed(h:i6 p s o l n)(a:∀x,x∈L->0<=x/\x<p.nb)(k:Ar (avT s o l) n L t)(T:ep s o l n t x):cx p x:=by
 have b:=k.left0;have d:=k.leftn;have c:=h.bk;exact T.formed h.fm h.on h.ln (i6.inBins a k) (by omega) (by omega)
theorem i6.availAt(h:i6 p s o l n)(c:∀x,x∈L->0<=x/\x<p.nb)(k:Ar (avT s o l) n L t)(T:ep s o l n t x){b:Nat}(d:b<p.nb)(a:((b:Nat):Int) ∉ L):aw x b ((s.os.z o).ls.z l).o.toNat=avT s o l b:=by
 have e:=h.good;rw[T.avail h.fm (h.formed c k T) h.on h.ln d (by omega),k.other b a];unfold avT;rw[show((b:Nat):Int).toNat=b from rfl]
 split<;>omega
theorem i6.addE(h:i6 p s o l n)(d:∀x,x∈L->0<=x/\x<p.nb)(k:Ar (avT s o l) n L t)(T:ep s o l n t x){b:Int}(g:0<=b/\b<p.nb){m:Int}(i:0<m)(q:m<=t.left):
  ie (k9 o l b m)=true/\keptV x.hs.n x.hs.z o l b+m<=200/\Go.Proofs.YtbcacebifpagpagGreat.addE x.hs.n x.hs.z (k9 o l b m)=0:=by
 have fx:=h.formed d k T;have nb6:=fx.sh.pl.nb6;have os4:=h.fm.os4;have r:=(h.fm.lns _ h.on).2;have A:=h.on;have B:=h.ln;have e:=T.keptS h.fm k.sum o l;rw[if_pos ⟨rfl,rfl⟩] at e;have hs:=h.sum;have w:=h.bk;have u:=k.leftn;obtain⟨a,rfl⟩:=Qzz g.1;have y:=O9 T.right o l (b:=a) (by omega);have v:=(tm (z:=s.hs.z) o l s.hs.n λj f=>(cz (cd h.fm.hold j f)).2.2.2).1;have c:ie (k9 o l a m)=true:=by
  unfold ie k9;rw[bw (by dsimp only;omega),bw (by dsimp only;omega),bw (by dsimp only;omega),bw (by dsimp only;omega)]
  rfl
 refine⟨c,by omega,?_⟩;rw[Uy T.right c,if_neg];show ¬200<keptV x.hs.n x.hs.z o l a+m;omega
end
theorem Tk.go_congr{av a:Int->Int}{n:Int}:∀{L:List Int} {t:Tk},(∀b,b∈L->av b=a b)->L.foldl (Tk.step av) t=L.foldl (Tk.step a) t
 | [],_,_=>rfl
 | b :: L,t,h=>by
  rw[List.foldl_cons,List.foldl_cons,show Tk.step av t b=Tk.step a t b by unfold Tk.step;rw[h b (by simp)]];exact Tk.go_congr (n:=n) λc hc=>h c (by simp[hc])
theorem i6.same{n:Int}(h:i6 p s o l n)(k:af x s):i6 p x o l n:=by
 have f:o<x.os.n:=by rw[k.os.1];exact h.on
 have e:=k.os.2 o f;have c:l<(x.os.z o).ls.n:=by rw[e.2.1];exact h.ln
 have a:=e.2.2 l c;have i:=h.good;refine⟨k.formed h.fm,λb d => ?_,f,c,h.n0,by rw[a];exact h.bk,?_⟩
 .rw[a,k.avail h.fm d (by omega)];exact h.av b d
 rw[a,k.hs.1,Cn _ _ λj g=>k.hs.2 j (by rw[k.hs.1];exact g)];exact h.sum
theorem ep.base{e:St}{n:Int}{t:Tk}(k:af e s)(h:ep e o l n t x):ep s o l n t x:=by
 have r:=k;refine⟨⟨h.on.1.trans k.on.1,λi hi => ?_⟩,⟨h.os.1.trans k.os.1,λi hi => ?_⟩,h.right,λa b c => ?_,⟨h.ms.1.trans k.ms.1,λj d=>(h.ms.2 j d).trans (k.ms.2 j (by rw[<-h.ms.1];exact d))⟩,⟨h.si.1.trans k.si.1,λj d=>(h.si.2 j d).trans (k.si.2 j (by rw[<-h.si.1];exact d))⟩,⟨h.so.1.trans k.so.1,λj d=>(h.so.2 j d).trans (k.so.2 j (by rw[<-h.so.1];exact d))⟩,⟨h.sf.1.trans k.sf.1,λj d=>(h.sf.2 j d).trans (k.sf.2 j (by rw[<-h.sf.1];exact d))⟩⟩
 .have a:=h.on.2 i hi;have b:=k.on.2 i (by rw[<-h.on.1];exact hi);exact⟨a.1.trans b.1,λj d=>(a.2 j d).trans (b.2 j (by rw[<-a.1];exact d))⟩
 .have a:=h.os.2 i hi;have b:=k.os.2 i (by rw[<-h.os.1];exact hi);refine⟨a.1.trans b.1,a.2.1.trans b.2.1,λj d => ?_⟩;rw[a.2.2 j d,b.2.2 j (by rw[<-a.2.1];exact d)]
 rw[h.kept,k.hs.1,zy λj d=>k.hs.2 j (by rw[k.hs.1];exact d)]
theorem ac0{n but:Int}(h:i6 p s o l n)(k:af x s):Tk.go (avT x o l) n (fg p but)=Tk.go (avT s o l) n (fg p but):=by
 unfold Tk.go;refine Tk.go_congr (n:=n) λb a => ?_;have d:o<x.os.n:=by rw[k.os.1];exact h.on
 have e:=k.os.2 o d;have c:l<(x.os.z o).ls.n:=by rw[e.2.1];exact h.ln
 have g:=h.good;have f:=Gp (yi.1 a).1;unfold avT;rw[e.2.2 l c];exact k.avail h.fm (by omega) (by omega)
theorem Xe{bin good n:Int}(h:ii p s bin good n=0):ag p s=0:=by
 apply Classical.byContradiction
 intro a;rw[F6 a] at h;exact a h
theorem Di{t:St}(a:Er s)(b:Er t):af s t:=by
 obtain⟨a1,e,k,d,f,h,g⟩:=a;obtain⟨b1,b2,b3,b4,b5,b6,b7⟩:=b;exact⟨⟨by omega,λi hi=>absurd hi (by omega)⟩,⟨by omega,λi hi=>absurd hi (by omega)⟩,⟨by omega,λj c=>absurd c (by omega)⟩,⟨by omega,λj c=>absurd c (by omega)⟩,⟨by omega,λj c=>absurd c (by omega)⟩,⟨by omega,λj c=>absurd c (by omega)⟩,⟨by omega,λj c=>absurd c (by omega)⟩⟩
theorem ij.same{t:St}(a:ij r t x)(b:ij r t y):af x y:=by
 by_cases h:r=0
 .exact(a.1 h).trans (b.1 h).symm
 exact Di (a.2 h) (b.2 h)
theorem ij.bound{p:Pl}{s t:St}(h:ij r t x)(f:r=0->t.os.n<=1000/\t.ms.n<=1000/\∀i,i<t.os.n->(t.os.z i).ls.n<=1000):x.os.n<=1000/\x.ms.n<=1000/\∀i,i<x.os.n->(x.os.z i).ls.n<=1000:=by
 by_cases b:r=0
 .obtain⟨l,d,f3⟩:=f b;have a:=h.1 b;have m:x.os.n=t.os.n:=a.os.1;have c:x.ms.n=t.ms.n:=a.ms.1;refine⟨by omega,by omega,λi hi => ?_⟩;have q:(x.os.z i).ls.n=(t.os.z i).ls.n:=(a.os.2 i hi).2.1;have:=f3 i (by omega);omega
 obtain⟨a1,g,E,e,j,o,k⟩:=h.2 b;exact⟨by omega,by omega,λi hi=>absurd hi (by omega)⟩
theorem Ah.same{order line n but:Int}(a:Ah p s order line n but x)(b:Ah p s order line n but y):af x y:=by
 by_cases h:fc p s order line n but=0
 .exact(a.1 h).same (b.1 h)
 exact Di (a.2 h) (b.2 h)
theorem Ah.bound{order line n but:Int}(a:Ah p s order line n but x):x.os.n<=1000/\x.ms.n<=1000/\∀i,i<x.os.n->(x.os.z i).ls.n<=1000:=by
 by_cases h:fc p s order line n but=0
 .have f:=(dp (allocIn h).st).fm;have T:=a.1 h;have o:=f.os4;have j:=f.ms8;have k:=T.os.1;have b:=T.ms.1;refine⟨by omega,by omega,λi hi => ?_⟩;rw[(T.os.2 i hi).2.1];have:=f.lns i (by omega);omega
 obtain⟨a1,d,m,c,e,l,g⟩:=a.2 h;exact⟨by omega,by omega,λi hi=>absurd hi (by omega)⟩
theorem O6{p:Pl}{f:Bool}{b:Nat}:∀{k:Nat},b<k->(p.zb b).front=f->((b:Nat):Int)∈frL p f k
 | k+1,hb,hf=>by
  by_cases c:b=k
  .subst c;rw[wo hf];simp
  have h:=O6 (k:=k) (by omega) hf;by_cases a:(p.zb k).front=f
  .rw[wo a];simp[h]
  rw[xw a];exact h
theorem Vf{b:Nat}(c:b<p.nb):((b:Nat):Int)∈fq p:=by
 unfold fq;rw[List.mem_append];cases a:(p.zb b).front
 .exact Or.inr (O6 c a)
 exact Or.inl (O6 c a)
theorem ep.trans{z:St}{k m:Int}{p q:Tk}(a:ep s o l k p y)(b:ep y o l m q z):ep s o l (k+m) ⟨p.left+q.left,λc=>p.took c+q.took c⟩ z:=by
 refine⟨⟨b.on.1.trans a.on.1,λi hi => ?_⟩,⟨b.os.1.trans a.os.1,λi hi => ?_⟩,b.right,λe f g => ?_,⟨b.ms.1.trans a.ms.1,λj d=>(b.ms.2 j d).trans (a.ms.2 j (by rw[<-b.ms.1];exact d))⟩,⟨b.si.1.trans a.si.1,λj d=>(b.si.2 j d).trans (a.si.2 j (by rw[<-b.si.1];exact d))⟩,⟨b.so.1.trans a.so.1,λj d=>(b.so.2 j d).trans (a.so.2 j (by rw[<-b.so.1];exact d))⟩,⟨b.sf.1.trans a.sf.1,λj d=>(b.sf.2 j d).trans (a.sf.2 j (by rw[<-b.sf.1];exact d))⟩⟩
 .have x:=b.on.2 i hi;have r:=a.on.2 i (by rw[<-b.on.1];exact hi);exact⟨x.1.trans r.1,λj d=>(x.2 j d).trans (r.2 j (by rw[<-x.1];exact d))⟩
 .have x:=b.os.2 i hi;have r:=a.os.2 i (by rw[<-b.os.1];exact hi);refine⟨x.1.trans r.1,x.2.1.trans r.2.1,λj d => ?_⟩;rw[x.2.2 j d,r.2.2 j (by rw[<-x.2.1];exact d)];by_cases h:i=o/\j=l
  .rw[if_pos h,if_pos h,if_pos h];unfold jc
   congr 1
   show _-(k-p.left)-(m-q.left)=_-(k+m-(p.left+q.left));omega
  rw[if_neg h,if_neg h,if_neg h]
 rw[b.kept,a.kept];show _=_+if _ then p.took g+q.took g else 0;by_cases n:e=o/\f=l
 .rw[if_pos n,if_pos n,if_pos n];omega
 rw[if_neg n,if_neg n,if_neg n];omega
section
variable {p:Pl} {s x y z:St} {order line n but k:Int}
theorem ox.less(h:ox p s order line n but)(b:0<=k/\k<=n):fc p s order line k but=0:=by
 have a:rj p s order line k but=false:=by
  unfold rj y9;have c:=h.n2;have on:=h.on;have o0:=h.o0;have ln:=h.ln;have l0:=h.l0;rw[bw (by omega),bw (by omega),bw (by omega)];rcases h.bt with e|e
  .rw[e];rfl
  rw[bw (by omega)];simp
 exact Ir h.st a h.kd (by have:=h.bk;omega)
theorem ox.rightX(h:ox p s order line n but)(hx:Ah p s order line n but x):ar p x :=
 (hx.1 (h.less ⟨h.n0,Int.le_refl _⟩)).rightAt h (λx hx=>h.way x hx) (h.tk (vx p but) (λx hx=>h.way x hx))
theorem ox.none(h:ox p s order line n but)(hx:Ah p s order line n but x)(c:0<Ct p s order line n but){b:Nat}(f:b<p.nb)(a:¬((b:Nat):Int)=but):aw x b (fp s order line).o.toNat=0:=by
 have e:=h.less ⟨h.n0,Int.le_refl _⟩;have T:=hx.1 e;have r:=h.rightX hx;have k:=h.tk (vx p but) (λx hx=>h.way x hx);unfold Ct at c;rw[if_pos e] at c;have i:=h.good;have j:((b:Nat):Int)∈fg p but:=yi.2 ⟨Vf f,a⟩;have g:=k.all c b j;rw[T.avail (dp h.st).fm r.fm h.on h.ln f (by omega),if_pos (by unfold fp;unfold fp at i;omega)];show _-(Pm p s (fp s order line).o n but).took b=0;have d:(Pm p s (fp s order line).o n but).took b=aw s b (fp s order line).o.toNat:=g;rw[d];omega
end
theorem af.self(s:St):af s s:=⟨⟨rfl,λ_ _=>⟨rfl,λ_ _=>rfl⟩⟩,⟨rfl,λ_ _=>⟨rfl,rfl,λ_ _=>rfl⟩⟩,⟨rfl,λ_ _=>rfl⟩,⟨rfl,λ_ _=>rfl⟩,⟨rfl,λ_ _=>rfl⟩,⟨rfl,λ_ _=>rfl⟩,⟨rfl,λ_ _=>rfl⟩⟩
theorem Bd(r:ar p s)(e:o<s.os.n)(b:l<(s.os.z o).ls.n):0<=((s.os.z o).ls.z l).n/\((s.os.z o).ls.z l).n+keptS s.hs.z o l s.hs.n<=200/\0<=keptS s.hs.z o l s.hs.n:=by
 have w:=r.orders o e;unfold ch at w;rw[Xxq] at w;have a:cp (s.os.z o).k ((s.os.z o).ls.z l) (keptS s.hs.z o l s.hs.n)=false:=dk w.2 l b;obtain⟨b1,b2,b3,b4⟩:=er (r.fm.line o e l b);have g:=(tm (z:=s.hs.z) o l s.hs.n λj f=>(cz (cd r.fm.hold j f)).2.2.2).1;unfold cp at a;by_cases d:(s.os.z o).k=0
 .rw[if_pos d] at a;simp only[Xxq,Bool.not_eq_false',beq_iff_eq] at a;omega
 rw[if_neg d] at a;by_cases c:(s.os.z o).k=2
 .rw[if_pos c] at a;simp only[Xxq,Bool.not_eq_false',beq_iff_eq] at a;omega
 rw[if_neg c] at a;simp only[Bool.not_eq_false',beq_iff_eq] at a;omega
theorem ar.takeIn(r:ar p s)(d:o<s.os.n)(c:l<(s.os.z o).ls.n){n:Int}(e:0<=n)(a:n<=((s.os.z o).ls.z l).n):i6 p s o l n:=by
 have q:=Bd r d c;have f:=(er (r.fm.line o d l c)).1;exact⟨r.fm,λb a=>(ld (r.goods _ (by omega))).2 b a,d,c,e,a,q.2.1⟩
def l6(p:Pl)(but:Int)(y:St)(i j:Nat)(n:Int)(x:St):Prop:=ep y i j n (Tk.go (avT y i j) n (fg p but)) x
structure km(p:Pl)(but:Int)(y:St)(i j:Nat)(n:Int):Prop where
 r:ar p y
 on:i<y.os.n
 ln:j<(y.os.z i).ls.n
 n0:0<=n
 kd:n=0\/(y.os.z i).k=1/\n<=((y.os.z i).ls.z j).n
 bt:but = -1\/0<=but/\but<p.nb
section
variable {p:Pl} {but:Int} {s y x:St} {i j:Nat} {n:Int}
theorem km.bk(h:km p but y i j n):n<=((y.os.z i).ls.z j).n:=by
 have q:=Bd h.r h.on h.ln;rcases h.kd with e|e
 .omega
 exact e.2
theorem km.tki(h:km p but y i j n):i6 p y i j n:=h.r.takeIn h.on h.ln h.n0 h.bk
theorem km.way(x:Int)(hx:x∈fg p but):0<=x/\x<p.nb:=Gp (yi.1 hx).1
theorem km.tk(h:km p but y i j n):Ar (avT y i j) n (fg p but) (Tk.go (avT y i j) n (fg p but)):=h.tki.tk (vx p but) km.way
theorem i6.tkw{but:Int}(h:i6 p y i j n):Ar (avT y i j) n (fg p but) (Tk.go (avT y i j) n (fg p but)):=h.tk (vx p but) km.way
theorem i6.none{but:Int}(h:i6 p y i j 0):(Tk.go (avT y i j) 0 (fg p but)).left=0/\∀c,(Tk.go (avT y i j) 0 (fg p but)).took c=0:=by
 have k:=h.tkw (but:=but);have a:=k.left0;have e:=k.leftn;refine⟨by omega,λc => ?_⟩;have d:=k.took0 c;have b:=k.tookn c;omega
theorem l6.zero(h:i6 p y i j 0)(T:l6 p but y i j 0 x):af x y:=ep.same T (ep.congr (ep.start (n:=0) h.fm.hold (af.self y)) h.none.1 h.none.2)
theorem l6.skip(h:i6 p y i j 0):l6 p but y i j 0 y:=ep.congr (ep.start (n:=0) h.fm.hold (af.self y)) h.none.1 h.none.2
theorem km.allocIn(h:km p but y i j n)(a:(y.os.z i).k=1):ox p y i j n but:=by
 have q:=Bd h.r h.on h.ln;have b:=h.bk;have o:=h.on;have l:=h.ln;exact⟨j8 h.r,by omega,o,by omega,l,h.n0,by omega,h.bt,a,b⟩
theorem l6.right(h:km p but y i j n)(T:l6 p but y i j n x):ar p x:=by
 rcases h.kd with e|e
 .subst e;exact(l6.zero h.tki T).right h.r
 have I:=h.allocIn e.1;exact ep.rightAt (order:=i) (line:=j) I (λx hx=>I.way x hx) (I.tk (vx p but) (λx hx=>I.way x hx)) T
theorem l6.same{c b:St}(h:i6 p y i j n)(e:af c y)(T:l6 p but y i j n x)(a:l6 p but c i j n b):af b x:=by
 unfold l6 at a;rw[ac0 h e] at a;exact(ep.base e a).same T
structure Gu(p:Pl)(but:Int)(s x:St):Prop where
 r:ar p x
 osn:x.os.n=s.os.n
 kind:∀i,i<s.os.n->(x.os.z i).k=(s.os.z i).k/\(x.os.z i).ls.n=(s.os.z i).ls.n
 line:∀i,i<s.os.n->∀j,j<(s.os.z i).ls.n->((x.os.z i).ls.z j).o=((s.os.z i).ls.z j).o/\((x.os.z i).ls.z j).l=((s.os.z i).ls.z j).l/\((x.os.z i).ls.z j).b=((s.os.z i).ls.z j).b
 sum:∀i,i<s.os.n->∀j,j<(s.os.z i).ls.n->((x.os.z i).ls.z j).n+keptS x.hs.z i j x.hs.n=((s.os.z i).ls.z j).n+keptS s.hs.z i j s.hs.n/\((x.os.z i).ls.z j).n<=((s.os.z i).ls.z j).n
 on:x.on.n=s.on.n/\∀i,i<x.on.n->(x.on.r i).n=(s.on.r i).n/\∀j,j<(x.on.r i).n->(x.on.r i).z j=(s.on.r i).z j
 ms:x.ms.n=s.ms.n/\∀j,j<x.ms.n->x.ms.z j=s.ms.z j
 si:x.si.n=s.si.n/\∀j,j<x.si.n->x.si.z j=s.si.z j
 so:x.so.n=s.so.n/\∀j,j<x.so.n->x.so.z j=s.so.z j
 sf:x.sf.n=s.sf.n/\∀j,j<x.sf.n->x.sf.z j=s.sf.z j
 av:∀b g,b<p.nb->g<p.ns->aw x b g<=aw s b g/\(((b:Nat):Int)=but->aw x b g=aw s b g)
theorem af.kept(h:af x s)(a b:Int):keptS x.hs.z a b x.hs.n=keptS s.hs.z a b s.hs.n:=by
 rw[h.hs.1,Cn _ _ λj c=>h.hs.2 j (by rw[h.hs.1];exact c)]
theorem af.line(h:af x s)(hi:i<s.os.n)(a:j<(s.os.z i).ls.n):(x.os.z i).ls.z j=(s.os.z i).ls.z j:=by
 have e:=h.os.2 i (by rw[h.os.1];exact hi);exact e.2.2 j (by rw[e.2.1];exact a)
theorem Gu.self(r:ar p s)(h:af x s):Gu p but s x:=by
 refine⟨h.right r,h.os.1,λi hi => ?_,λi hi j a => ?_,λi hi j a => ?_,h.on,h.ms,h.si,h.so,h.sf,λb g d c => ?_⟩
 .have e:=h.os.2 i (by rw[h.os.1];exact hi);exact⟨e.1,e.2.1⟩
 .rw[h.line hi a];exact⟨rfl,rfl,rfl⟩
 .rw[h.line hi a,h.kept];exact⟨rfl,Int.le_refl _⟩
 rw[h.avail r.fm d c];exact⟨Int.le_refl _,λ_=>rfl⟩
theorem Gu.step(A:Gu p but s y)(h:km p but y i j n)(T:l6 p but y i j n x):Gu p but s x:=by
 have k:=h.tk;have q:=l6.right h T;have d:ep y i j n (Tk.go (avT y i j) n (fg p but)) x:=T
 generalize Tk.go (avT y i j) n (fg p but)=t at k d
 have E:=k.left0;have D:=k.leftn;refine⟨q,d.os.1.trans A.osn,λa l => ?_,λa l b m => ?_,λa l b m => ?_,⟨d.on.1.trans A.on.1,λa l => ?_⟩,⟨d.ms.1.trans A.ms.1,λc hc=>(d.ms.2 c hc).trans (A.ms.2 c (by rw[<-d.ms.1];exact hc))⟩,⟨d.si.1.trans A.si.1,λc hc=>(d.si.2 c hc).trans (A.si.2 c (by rw[<-d.si.1];exact hc))⟩,⟨d.so.1.trans A.so.1,λc hc=>(d.so.2 c hc).trans (A.so.2 c (by rw[<-d.so.1];exact hc))⟩,⟨d.sf.1.trans A.sf.1,λc hc=>(d.sf.2 c hc).trans (A.sf.2 c (by rw[<-d.sf.1];exact hc))⟩,λb g m u => ?_⟩
 .have e:=d.os.2 a (by rw[d.os.1,A.osn];exact l);have f:=A.kind a l;exact⟨e.1.trans f.1,e.2.1.trans f.2⟩
 .have f:=A.kind a l;have g:=A.line a l b m;rw[d.line (by rw[A.osn];exact l) (by rw[f.2];exact m)];by_cases c:a=i/\b=j
  .rw[if_pos c];exact g
  rw[if_neg c];exact g
 .have f:=A.kind a l;have g:=A.sum a l b m;rw[d.line (by rw[A.osn];exact l) (by rw[f.2];exact m),d.keptS h.r.fm k.sum];by_cases c:a=i/\b=j
  .rw[if_pos c,if_pos ⟨by omega,by omega⟩];show((y.os.z a).ls.z b).n-(n-t.left)+_=_/\((y.os.z a).ls.z b).n-(n-t.left)<=_;omega
  rw[if_neg c,if_neg (λe=>c ⟨by omega,by omega⟩)];omega
 .have e:=d.on.2 a l;have f:=A.on.2 a (by rw[<-d.on.1];exact l);exact⟨e.1.trans f.1,λc hc=>(e.2 c hc).trans (f.2 c (by rw[<-e.1];exact hc))⟩
 have e:=d.avail h.r.fm q.fm h.on h.ln m u;have f:=A.av b g m u;have B:=k.took0 b;refine⟨by rw[e];split<;>omega,λo => ?_⟩;have w:((b:Nat):Int) ∉ fg p but:=λv=>(yi.1 v).2 o;rw[e,k.other _ w,f.2 o]
 split<;>omega
end
def ng(a b i j:Nat):Prop:=a<i\/a=i/\b<j
structure Pos(p:Pl)(but:Int)(q:Nat->Nat->Int)(s:St)(i j:Nat)(x:St):Prop where
 al:Gu p but s x
 later:∀a b,a<s.os.n->b<(s.os.z a).ls.n->¬ng a b i j->(x.os.z a).ls.z b=(s.os.z a).ls.z b/\keptS x.hs.z a b x.hs.n=keptS s.hs.z a b s.hs.n
 none:∀a b,a<s.os.n->b<(s.os.z a).ls.n->ng a b i j->q a b=((s.os.z a).ls.z b).n->0<((x.os.z a).ls.z b).n->∀c:Nat,c<p.nb->¬((c:Nat):Int)=but->aw x c ((s.os.z a).ls.z b).o.toNat=0
 first:∀a b,a<s.os.n->b<(s.os.z a).ls.n->∀a' b',a'<s.os.n->b'<(s.os.z a').ls.n->ng a b a' b'->ng a' b' i j->q a b=((s.os.z a).ls.z b).n->0<((x.os.z a).ls.z b).n->((s.os.z a).ls.z b).o=((s.os.z a').ls.z b').o->keptS x.hs.z a' b' x.hs.n=keptS s.hs.z a' b' s.hs.n
structure QIn(p:Pl)(but:Int)(q:Nat->Nat->Int)(s:St):Prop where
 r:ar p s
 q0:∀a b,a<s.os.n->b<(s.os.z a).ls.n->0<=q a b/\(q a b=0\/(s.os.z a).k=1/\q a b<=((s.os.z a).ls.z b).n)
 bt:but = -1\/0<=but/\but<p.nb
def lm(p:Pl)(but:Int)(q:Nat->Nat->Int)(i:Nat)(s:St):Nat->St->Prop
 | 0,x=>x=s
 | j+1,x=>∃y,lm p but q i s j y/\l6 p but y i j (q i j) x
def iq(p:Pl)(but:Int)(q:Nat->Nat->Int)(m:Nat->Nat)(s:St):Nat->St->Prop
 | 0,x=>af x s
 | i+1,x=>∃y,iq p but q m s i y/\lm p but q i y (m i) x
section
variable {p:Pl} {but:Int} {q:Nat->Nat->Int} {s y x:St} {i j:Nat}
theorem Pos.stepIn(Q:QIn p but q s)(P:Pos p but q s i j y)(hi:i<s.os.n)(a:j<(s.os.z i).ls.n):km p but y i j (q i j):=by
 have k:=P.al.kind i hi;have l:=P.later i j hi a (λe=>by unfold ng at e;omega);have e:=Q.q0 i j hi a;refine⟨P.al.r,by rw[P.al.osn];exact hi,by rw[k.2];exact a,e.1,?_,Q.bt⟩;rw[k.1,l.1];exact e.2
theorem Pos.start(Q:QIn p but q s)(h:af x s):Pos p but q s 0 0 x :=
 ⟨Gu.self Q.r h,λa b d c _=>⟨h.line d c,h.kept _ _⟩,λa b _ _ c=>by unfold ng at c;omega,λ_ _ _ _ e f _ _ _ c=>by unfold ng at c;omega⟩
theorem Pos.next(P:Pos p but q s i j x)(o:(s.os.z i).ls.n<=j):Pos p but q s (i+1) 0 x:=by
 have key:∀a b,b<(s.os.z a).ls.n->ng a b (i+1) 0->ng a b i j:=λa b c h=>by
  unfold ng at h ⊢;rcases h with h|h
  .by_cases e:a=i
   .subst e;exact Or.inr ⟨rfl,by omega⟩
   exact Or.inl (by omega)
  omega
 refine⟨P.al,λa b d c h=>P.later a b d c (λe=>h ?_),λa b d c h=>P.none a b d c (key a b c h),λa b d c l k g f h m=>P.first a b d c l k g f h (key l k f m)⟩;unfold ng at e ⊢;omega
theorem Pos.step(Q:QIn p but q s)(P:Pos p but q s i j y)(hi:i<s.os.n)(hj:j<(s.os.z i).ls.n)(T:l6 p but y i j (q i j) x):Pos p but q s i (j+1) x:=by
 have I:=P.stepIn Q hi hj;have k:=I.tk;have X:=l6.right I T;have A:=P.al.step I T;have D:ep y i j (q i j) (Tk.go (avT y i j) (q i j) (fg p but)) x:=T
 generalize ht:Tk.go (avT y i j) (q i j) (fg p but)=t at k D
 have L:=P.later i j hi hj (λe=>by unfold ng at e;omega);have S:∀a,a<s.os.n->∀b,b<(s.os.z a).ls.n->a<y.os.n/\b<(y.os.z a).ls.n:=λa l b m=>⟨by rw[P.al.osn];exact l,by rw[(P.al.kind a l).2];exact m⟩;have other:∀a,a<s.os.n->∀b,b<(s.os.z a).ls.n->¬(a=i/\b=j)->(x.os.z a).ls.z b=(y.os.z a).ls.z b/\keptS x.hs.z a b x.hs.n=keptS y.hs.z a b y.hs.n:=λa l b m d=>by
  have e:=S a l b m;refine⟨by rw[D.line e.1 e.2,if_neg d],?_⟩;rw[D.keptS I.r.fm k.sum,if_neg (λe=>d ⟨by omega,by omega⟩),Int.add_zero]
 have M:∀a b,ng a b i (j+1)->¬(a=i/\b=j)->ng a b i j:=λa b h d=>by
  unfold ng at h ⊢;omega
 have ah:=k.left0;have hg:=I.tki.good;have F:((y.os.z i).ls.z j).o=((s.os.z i).ls.z j).o:=by rw[L.1]
 refine⟨A,λa b l m h => ?_,λa b l m h J B c hc U => ?_,λa b l m K H E V h h' J B W => ?_⟩
 .have d:¬(a=i/\b=j):=λe=>h (by unfold ng;omega);have e:=other a l b m d;have f:=P.later a b l m (λe=>h (by unfold ng at e ⊢;omega));exact⟨e.1.trans f.1,e.2.trans f.2⟩
 .by_cases d:a=i/\b=j
  .obtain⟨rfl,rfl⟩:=d;have e:=D.line (S a l b m).1 (S a l b m).2;rw[if_pos ⟨rfl,rfl⟩] at e;have hx:((x.os.z a).ls.z b).n=((y.os.z a).ls.z b).n-(q a b-t.left):=by rw[e];rfl
   rw[hx,L.1,<-J] at B;have G:((c:Nat):Int)∈fg p but:=yi.2 ⟨Vf hc,U⟩;have E:=k.all (by omega) c G;rw[<-F,D.avail I.r.fm X.fm I.on I.ln hc (by omega),if_pos (by omega),E];unfold avT;show aw y c _-aw y c _=0;omega
  have e:=other a l b m d;rw[e.1] at B;have f:=P.none a b l m (M a b h d) J B c hc U;have gg:=(er (Q.r.fm.line a l b m)).1;have u:=D.avail I.r.fm X.fm I.on I.ln hc (g:=((s.os.z a).ls.z b).o.toNat) (by omega);have t0:=k.took0 c;have v:=(ld (X.goods ((s.os.z a).ls.z b).o.toNat (by omega))).2 c hc;rw[f] at u
  split at u<;>omega
 have aa:¬(a=i/\b=j):=λe=>by unfold ng at h h';omega
 have Y:=other a l b m aa;rw[Y.1] at B;by_cases d:K=i/\H=j;rotate_left
 .have e:=other K E H V d;rw[e.2];exact P.first a b l m K H E V h (M K H h' d) J B W
 obtain⟨rfl,rfl⟩:=d;have f:=P.none a b l m h J B;have tz:∀c:Nat,c<6->t.took c=0:=λc hc=>by
  by_cases G:((c:Nat):Int)∈fg p but
  .have w:=km.way _ G;have u:=f c (by omega) (yi.1 G).2;have v:=k.had _ G;have t0:=k.took0 c;have e2:avT y K H c=aw y c ((s.os.z a).ls.z b).o.toNat:=by
    unfold avT;rw[F,W]
    rfl
   rw[e2,u] at v;omega
  exact k.other _ G
 have sz:=k.sum;rw[vv λc hc=>tz c hc] at sz;rw[D.keptS I.r.fm k.sum,if_pos ⟨rfl,rfl⟩,L.2];omega
theorem lm.pos(Q:QIn p but q s)(P:Pos p but q s i 0 y)(hi:i<s.os.n):∀{j:Nat} {x:St},j<=(s.os.z i).ls.n->lm p but q i y j x->Pos p but q s i j x
 | 0,x,_,h=>by
  have b:x=y:=h;rw[b];exact P
 | j+1,x,hj,h=>by
  obtain⟨z,a,T⟩:=h;exact(lm.pos Q P hi (by omega) a).step Q hi (by omega) T
theorem iq.pos{m:Nat->Nat}(Q:QIn p but q s)(b:∀a,a<s.os.n->m a=(s.os.z a).ls.n):∀{i:Nat} {x:St},i<=s.os.n->iq p but q m s i x->Pos p but q s i 0 x
 | 0,x,_,h=>Pos.start Q h
 | i+1,x,hi,h=>by
  obtain⟨z,c,T⟩:=h;have P:=iq.pos Q b (i:=i) (by omega) c;rw[b i (by omega)] at T;exact(lm.pos Q P (by omega) nlr T).next nlr
theorem lm.skip(Q:QIn p but q s)(P:Pos p but q s i 0 y)(hi:i<s.os.n):∀{j:Nat},j<=(s.os.z i).ls.n->(∀b,b<j->q i b=0)->lm p but q i y j y
 | 0,_,_=>rfl
 | j+1,hj,h0=>by
  have T:=lm.skip Q P hi (j:=j) (by omega) λb a=>h0 b (by omega);refine⟨y,T,?_⟩;have I:=(lm.pos Q P hi (by omega) T).stepIn Q hi (by omega);rw[h0 j (by omega)] at I ⊢;exact l6.skip I.tki
theorem lm.same{b:St}(Q:QIn p but q s)(P:Pos p but q s i 0 y)(e:af b y)(hi:i<s.os.n):∀{j:Nat} {x a:St},j<=(s.os.z i).ls.n->lm p but q i y j x->lm p but q i b j a->af a x
 | 0,x,a,_,h,h'=>by
  have c:x=y:=h;have d:a=b:=h';rw[c,d];exact e
 | j+1,x,a,hj,⟨z,hz,T⟩,⟨z',hz',T'⟩=>by
  have f:=lm.same Q P e hi (j:=j) (by omega) hz hz';exact l6.same ((lm.pos Q P hi (by omega) hz).stepIn Q hi (by omega)).tki f T T'
theorem iq.same{m:Nat->Nat}(Q:QIn p but q s)(c:∀a,a<s.os.n->m a=(s.os.z a).ls.n):∀{i:Nat} {x b:St},i<=s.os.n->iq p but q m s i x->iq p but q m s i b->af b x
 | 0,x,b,_,h,h'=>af.trans h' (af.symm h)
 | i+1,x,b,hi,⟨z,hz,T⟩,⟨z',hz',T'⟩=>by
  have f:=iq.same Q c (i:=i) (by omega) hz hz';exact lm.same Q (iq.pos Q c (by omega) hz) f (by omega) (by rw[c i (by omega)];exact Nat.le_refl _) T T'
theorem lm.base{a:Nat->Nat->Int}(c:∀b,b<(s.os.z i).ls.n->a i b=q i b):∀{j:Nat} {x:St},j<=(s.os.z i).ls.n->lm p but a i y j x->lm p but q i y j x
 | 0,x,_,h=>h
 | j+1,x,hj,⟨z,hz,T⟩=>⟨z,lm.base c (by omega) hz,by rw[<-c j (by omega)];exact T⟩
theorem iq.base{g:St}{d:Nat->Nat->Int}{m m':Nat->Nat}(e:af g s)(f:∀a,a<s.os.n->m a=(s.os.z a).ls.n)(c:∀a,a<s.os.n->m' a=m a)(j:∀a b,a<s.os.n->b<(s.os.z a).ls.n->d a b=q a b):∀{i:Nat} {x:St},i<=s.os.n->iq p but d m' g i x->iq p but q m s i x
 | 0,x,_,h=>af.trans h e
 | i+1,x,hi,⟨z,hz,T⟩=>⟨z,iq.base e f c j (by omega) hz,by
   rw[c i (by omega)] at T;exact lm.base (s:=s) (λb k=>j i b (by omega) k) (by rw[f i (by omega)];exact Nat.le_refl _) T⟩
end
def adj(h:Hs)(x:Hd):Hs:=⟨h.a,qp h.n h.z x,h.c,zj h.n h.z x⟩
def Xr(s:St)(o l:Nat)(m b:Int):St:=if 0<m then withHolds (setLine s o l 3 (((s.os.z o).ls.z l).n-m)) (adj s.hs (k9 o l b m)) else s
def Xs(s0:St)(o l:Nat):List Int->Int->St->St
 | [],_,x=>x
 | b :: L,n,x=>Xs s0 o l L (n-min n (avT s0 o l b)) (Xr x o l (min n (avT s0 o l b)) b)
def Xt(p:Pl)(but:Int)(s:St)(o l:Nat)(n:Int):St:=Xs s o l (fg p but) n s
theorem Oh{p:Pl}{s:St}{o l:Nat}{n:Int}(h:i6 p s o l n):∀(f a:List Int) (x:St),(∀c,c∈a++f->0<=c/\c<p.nb)->(a++f).Pairwise (λx y=>¬x=y)->ep s o l n (Tk.go (avT s o l) n a) x->ep s o l n (Tk.go (avT s o l) n (a++f)) (Xs s o l f (Tk.go (avT s o l) n a).left x)
 | [],a,x,_,_,T=>by rw[List.append_nil];exact T
 | b :: L,a,x,hc,hp,T=>by
  have e:a++b :: L=(a++[b])++L:=by simp
  have q:=hc b (by simp);have k:=h.tk (L:=a) (List.pairwise_append.1 hp).1 (λc d=>hc c (by simp[d]));have t:=k.left0;have r:0<=avT s o l b:=h.av _ (by omega);have m:ep s o l n (Tk.go (avT s o l) n (a++[b])) (Xr x o l (min (Tk.go (avT s o l) n a).left (avT s o l b)) b):=by
   rw[Tk.go_more];unfold Xr;by_cases g:0<min (Tk.go (avT s o l) n a).left (avT s o l b)
   .rw[if_pos g];have i:=(h.addE (λc d=>hc c (by simp[d])) k T q g (Int.min_le_left _ _)).2.2;exact T.stepAdd (order:=o) (line:=l) (y:=adj x.hs (k9 o l b (min (Tk.go (avT s o l) n a).left (avT s o l b)))) h.on h.ln rfl i ⟨(if_pos i).symm,λ_ _=>rfl⟩
   rw[if_neg g];exact T.stepZero (by omega)
  have R:=Oh h L (a++[b]) _ (by rw[<-e];exact hc) (by rw[<-e];exact hp) m;rw[e];have j:(Tk.go (avT s o l) n (a++[b])).left=(Tk.go (avT s o l) n a).left-min (Tk.go (avT s o l) n a).left (avT s o l b):=by rw[Tk.go_more];rfl
  rw[j] at R;exact R
theorem zg{n but:Int}(h:i6 p s o l n):l6 p but s o l n (Xt p but s o l n):=
 Oh h (fg p but) [] s (λc hc=>km.way c hc) (vx p but) (ep.start (n:=n) h.fm.hold (af.self s))
def Xm(p:Pl)(but:Int)(q:Nat->Nat->Int)(i:Nat):Nat->St->St
 | 0,s=>s
 | j+1,s=>Xt p but (Xm p but q i j s) i j (q i j)
def Vr(p:Pl)(but:Int)(q:Nat->Nat->Int)(m:Nat->Nat):Nat->St->St
 | 0,s=>s
 | i+1,s=>Xm p but q i (m i) (Vr p but q m i s)
section
variable {p:Pl} {but:Int} {q:Nat->Nat->Int} {s y:St} {i:Nat}
theorem Te(Q:QIn p but q s)(P:Pos p but q s i 0 y)(hi:i<s.os.n):∀{j:Nat},j<=(s.os.z i).ls.n->lm p but q i y j (Xm p but q i j y)
 | 0,_=>rfl
 | j+1,hj=>by
  have T:=Te Q P hi (j:=j) (by omega);exact⟨_,T,zg ((lm.pos Q P hi (by omega) T).stepIn Q hi (by omega)).tki⟩
theorem L4{m:Nat->Nat}(Q:QIn p but q s)(b:∀a,a<s.os.n->m a=(s.os.z a).ls.n):∀{i:Nat},i<=s.os.n->iq p but q m s i (Vr p but q m i s)
 | 0,_=>af.self s
 | i+1,hi=>by
  have T:=L4 Q b (i:=i) (by omega);exact⟨_,T,by
   rw[show m i=(s.os.z i).ls.n from b i (by omega)];show lm p but q i _ _ (Xm p but q i (m i) _);rw[b i (by omega)];exact Te Q (iq.pos Q b (by omega) T) (by omega) nlr⟩
end
def xi(x:Hd):Hd:=⟨x.o,x.l,x.b,x.l-x.b⟩
def yv(h:Hs)(k:Nat):Hs:=⟨h.a,h.n,h.c,λj=>if j<k then xi (h.z j) else h.z j⟩
def Hk(os:Os)(i k:Nat):Os:=⟨os.a,os.n,os.c,λa=>if a=i then ⟨(os.z a).k,yv (os.z a).ls k⟩ else os.z a⟩
def fj(s:St)(i k:Nat):St:=⟨s.on,Hk s.os i k,s.hs,s.ms,s.si,s.so,s.sf⟩
theorem xz(s:St)(i k:Nat):((fj s i k).os.z i)=⟨(s.os.z i).k,yv (s.os.z i).ls k⟩:=if_pos rfl
theorem Hm(s:St)(i:Nat):fj s i 0=s:=by
 unfold fj Hk;have e:(λa=>if a=i then(⟨(s.os.z a).k,yv (s.os.z a).ls 0⟩:Od) else s.os.z a)=s.os.z:=by
  funext a
  by_cases h:a=i
  .rw[if_pos h];have c:yv (s.os.z a).ls 0=(s.os.z a).ls:=by
    unfold yv;have b:(λj=>if j<0 then xi ((s.os.z a).ls.z j) else(s.os.z a).ls.z j)=(s.os.z a).ls.z:=by funext j;rw[if_neg (Qzq _)]
    rw[b]
   rw[c]
  rw[if_neg h]
 rw[e]
theorem Hl(s:St)(i k:Nat):setLine (fj s i k) i k 3 (((s.os.z i).ls.z k).l-((s.os.z i).ls.z k).b)=fj s i (k+1):=by
 have e:Dm (Hk s.os i k) i k 3 (((s.os.z i).ls.z k).l-((s.os.z i).ls.z k).b)=Hk s.os i (k+1):=by
  unfold Dm Hk;dsimp only
  congr 1
  funext a
  by_cases h:a=i
  .subst h;simp only[↓reduceIte]
   congr 1
   unfold Ab yv;dsimp only
   congr 1
   funext j
   by_cases c:j=k
   .subst c;rw[if_pos rfl,if_neg (Nat.lt_irrefl _),if_pos (by omega)]
    rfl
   rw[if_neg c];by_cases d:j<k
   .rw[if_pos d,if_pos (by omega)]
   rw[if_neg d,if_neg (by omega)]
  rw[if_neg h,if_neg h,if_neg h]
 unfold setLine;rw[show(fj s i k).os=Hk s.os i k from rfl,e]
 rfl
def pb(w wk:World):Prop:=∀(q:Nat) (t:TypeId) (m:Nat) (f:Nat->Value),t≠59->t≠57->Blk w q t m f->Blk wk q t m f
theorem pb.below{b:World}(h:pb w a)(d:Below a.heap.size a b):pb w b:=λq t m f c g e=>(h q t m f c g e).below d
theorem pb.refl(w:World):pb w w:=λ_ _ _ _ _ _ h=>h
theorem pb.trans(h:pb w a)(k:pb a d):pb w d:=λq t m f b c e=>k q t m f b c (h q t m f b c e)
theorem pb.setLine{b:World}(h:pb w b){B n:Nat}{z:Nat->Value}(g:Blk b B 59 n z)(j:Nat)(u:Value):pb w (b.setCell ⟨B,j,none⟩ u):=λq t m f c e d=>(h q t m f c e d).other (a:=⟨B,j,none⟩) (Blk.ne2 (h q t m f c e d) g c) u
theorem pb.setOrder{b:World}(h:pb w b){B n:Nat}{z:Nat->Value}(g:Blk b B 57 n z)(j:Nat)(u:Value):pb w (b.setCell ⟨B,j,none⟩ u):=λq t m f e c d=>(h q t m f e c d).other (a:=⟨B,j,none⟩) (Blk.ne2 (h q t m f e c d) g c) u
theorem Sw(x:St)(i A gO:Nat)(w:World)(hA:A<=w.heap.size)(L:ai A w x)(hi:i<x.os.n)(D:x.os.a=some ⟨gO,0,none⟩)(T:∀j,j<(x.os.z i).ls.n->(0<=((x.os.z i).ls.z j).l/\((x.os.z i).ls.z j).l<=200)/\0<=((x.os.z i).ls.z j).b/\((x.os.z i).ls.z j).b<=200):
  Calls prog 99 #[.pointer (some ⟨gO,i*2,none⟩)] w λe H=>e = .returned (.tuple #[])/\ai A H (fj x i (x.os.z i).ls.n)/\Below A w H/\pb w H:=by
 obtain⟨g,K,bi,E⟩:=L.os.list (by omega);obtain⟨B,b1,b2,b3,b4,b5⟩:=L.os.lines i hi;have an:g=gO:=by rw[D] at K;simpa using K.symm
 subst an;have bj:Hid (∀m k,ai A m (fj x i k)->∀{l:Nat},l<(x.os.z i).ls.n->∃f B',(fj x i k).os.a=some ⟨f,0,none⟩/\f<m.heap.size/\m.cell? ⟨f,i*2+1,none⟩=some (.slice (some ⟨B',0,none⟩) (x.os.z i).ls.n (x.os.z i).ls.c)/\((fj x i k).os.z i).ls.a=some ⟨B',0,none⟩):=λm k h l hl=>by
  have J:l<((fj x i k).os.z i).ls.n:=by rw[xz];exact hl
  obtain⟨f,B',M,f2,f3,f4,u,_⟩:=h.lineCell (o:=i) (l:=l) hi J;rw[xz] at f4;exact⟨f,B',M,f3,f4,u⟩
 have a0:Hid _:=T;have c0:=E.cell (j:=i*2+1) (by omega);rw[qc (z:=x.os.z) hi (show 1<2 by decide)] at c0;have c1:w.cell? ⟨g,i*2+1,none⟩=some (.slice (x.os.z i).ls.a (x.os.z i).ls.n (x.os.z i).ls.c):=c0;clear c0;rw[b1] at c1;have gl:=E.lt;have r:Hid (ai A w (fj x i 0)):=by show ai A w (fj x i 0);rw[Hm];exact L
 have a4:=hid b1;have am:=hid D;unfold maxLen at b4;clear L K E b1 b5 D T;go_enter func99,ntmps99;go_wp2_with fail;clear c1 gl
 go_loopw [9] (λkv m=>∃k:Nat,k<=(x.os.z i).ls.n/\kv = .int .i64 k/\Hid (ai A m (fj x i k))/\Hid (Below A w m)/\Hid (pb w m)) (λkv _=>(x.os.z i).ls.n-(intOf kv).toNat)
 case atStart=>exact⟨0,Qxz _,rfl,r,Below.refl _ _,pb.refl _⟩
 clear r;obtain⟨k,hk,rfl,r,Q,HK⟩:=hrel;by_cases ab:k<(x.os.z i).ls.n;rotate_left
 .have au:k=(x.os.z i).ls.n:=by omega
  subst au;go_wp2_with fail
  first|go_end0|refine Xzq (results_none rfl _ _ _) rfl ?_
  exact⟨rfl,r.out,Q.out,HK.out⟩
 have J:k<((fj x i k).os.z i).ls.n:=by rw[xz];exact ab
 obtain⟨f,B',M,f2,f3,f4,u,f6,f7,f8,f9,az,a5,a2,aw,a1⟩:=r.out.lineCell (o:=i) (l:=k) hi J;have e1:f=g:=by
  have h:x.os.a=some ⟨f,0,none⟩:=M;rw[am.out] at h
  simpa using h.symm
 have e2:B'=B:=by
  have h:(x.os.z i).ls.a=some ⟨B',0,none⟩:=by rw[xz] at u;exact u
  rw[a4.out] at h
  simpa using h.symm
 subst e1;subst e2;have ac:Hid (((fj x i k).os.z i).ls.a=some ⟨B',0,none⟩):=u;have hz:((fj x i k).os.z i).ls.z k=(x.os.z i).ls.z k:=by
  rw[xz];exact if_neg (Nat.lt_irrefl _)
 rw[hz] at a5 a2 aw a1;rw[xz] at f4;have ao:wr.cell? ⟨f,i*2+1,none⟩=some (.slice (some ⟨B',0,none⟩) (x.os.z i).ls.n (x.os.z i).ls.c):=f4;clear f4;have aq:Hid (setLine (fj x i k) i k 3 (((x.os.z i).ls.z k).l-((x.os.z i).ls.z k).b)=fj x i (k+1)):=Hl x i k;have hb:=a0.out k ab;have q0:(0:Int)<=(k:Int):=by omega
 have q1:(k:Int)<((x.os.z i).ls.n:Int):=by omega
 generalize (x.os.z i).ls.z k=Z at *
 obtain⟨W,hW,t,KX⟩:∃W,wr.alloc (.cells #[.int .i64 Z.o,.int .i64 Z.l,.int .i64 Z.b,.int .i64 Z.n] 59)=W/\Below wr.heap.size wr W/\Blk W wr.heap.size 59 4 (λj=>(#[.int .i64 Z.o,.int .i64 Z.l,.int .i64 Z.b,.int .i64 Z.n]:Array Value).getD j default):=⟨_,rfl,brf.alloc nlr _,Blk.mk' rfl rfl⟩;have HW:Hid (wr.alloc (.cells #[.int .i64 Z.o,.int .i64 Z.l,.int .i64 Z.b,.int .i64 Z.n] 59)=W):=hW;have U:=hid (r.out.below t);have v:=Q.out.trans (t.mono (Qzx hA Q.out.size));have aa:Hid (pb w W):=HK.out.below t;have t1:∀d os,(grow (redrawn W d) os).cell? ⟨f,i*2+1,none⟩=some (.slice (some ⟨B',0,none⟩) (x.os.z i).ls.n (x.os.z i).ls.c):=λd os=>Qqq ((t.cell (p:=⟨f,i*2+1,none⟩) f3).trans ao) d os;have t2:=Qqq (KX.k 1);have t3:=Qqq (KX.k 2);clear hW hz M f2 u f8 f9 az KX r Q HK;go_wp2_with fail;rw[HW.out];refine fh (λH=>∃p:Regrown,H=grow (redrawn W p.d) p.os) (List.range 12) [] [(true,12)] (Qqx (brf.drew)) ?_;rw[show List.range 12=[0,1,2,3,4,5,6,7,8,9,10,11] from rfl];simp only[du,Qyq,Xqq,Qyx,Qyz,Xqz,Xqx]
 repeat(go_big_quiet_step(fail))
 refine Qqz ?_;clear t1 t2 t3;refine⟨λ_ _ _ _=>True,Qjq _,Qjq _,Qjq _,λV G wj hS _ _ => ?_⟩;have P:=ae hS;have F:=ai.below U.out P;have S:=v.trans (P.mono (Qzx hA v.size));have Y:=aa.out.below P;obtain⟨Bq,s,-,-,-,q⟩:=F.os.lines i hi;rw[ac.out] at s;simp only[Qkx,Qkz,and_true] at s;subst s;have zl:=q.lt;have zf:=q.frozen (k*4+3);have zc:=q.cell (j:=k*4+3) (by omega);have y:=F.setLine (o:=i) hi ac.out k 3 (by decide) (Z.l-Z.b);have ad:=Y.setLine q (k*4+3) (.int .i64 (Z.l-Z.b));have X:=S.setCell (p:=⟨B',k*4+3,none⟩) (by show A<=B';omega) (.int .i64 (Z.l-Z.b));rw[aq.out] at y;have HN:=qa3 y X ad;clear F S Y q y ad X P hS U aa v
 generalize (ay ((fj x i k).os.z i).ls.n ((fj x i k).os.z i).ls.z).getD (k*4+3) default=VV at zc
 simp only[ap];refine cf 12 rfl ?_;go_wp2_with fail;refine⟨gy.yes,?_⟩;refine NoPanic.normal ?_;go_wp2_with fail;go_roundw
 case rel=>exact⟨k+1,by omega,by go_num,HN.out.1,HN.out.2.1,HN.out.2.2⟩
 case measure=>simp[intOf];omega
end Go.Proofs.YtbcacebifpagpagGreat
