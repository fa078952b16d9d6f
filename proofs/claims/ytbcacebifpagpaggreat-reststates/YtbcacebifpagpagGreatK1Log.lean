/- Texts that were built one behind the other, joined; what is not reached is left out. -/
import Derived.WalkKit
import Derived.Test.YtbcacebifpagpagGreatRows
import Derived.Laws.EntriesVeiled
import Derived.WalkSpells
import Derived.WalkLawsBesides
import Derived.Deep.QuietTactic
import Derived.BigQuiet
import Derived.Deep.RegionHeld3
import Derived.Shelf.Abstract
import Derived.Maps.AppendAt
import Derived.Orders
import Derived.Lib.QuietBelow
import Derived.Lib.AppendZerosOnto
import Derived.Lib.Walk
import Derived.Lib.SliceRun
import Derived.Laws.AppendOwnNone
import Derived.Deep.OwnRows
import Derived.BigRegion
set_option maxHeartbeats 4000000
set_option maxRecDepth 100000
set_option linter.unusedVariables false
namespace Go.Proofs.YtbcacebifpagpagGreat
variable{n b A g o l c i q j R L M:Nat}{w a d:World}{r W J D:Int}{e H:TypeId}{f f':Nat->Value}{Q:Exit->Act->World->Prop}{v c1 c3 c2:Value}{xs:List Value}{X Y:Int->Int->Int}{P:Program}{t:List UInt8}{z' zs:Nat->Int}{S:World->Prop}{a1:Act}{K:Act->World->Prop}
open _root_.Go.Proofs.Tryz
open Go.RowKit
abbrev Qqq:=@Go.cell_regrown
abbrev Qqx:=@Go.regrown_of_below
abbrev Qqz:=@Go.wpQuiet_nil
abbrev Qxq:=@Go.wp_region_quiet_below
abbrev Qxx:=@Go.below_regrown
abbrev Qxz:=@Nat.zero_le
abbrev Qzq:=@Nat.not_lt_zero
abbrev Qzx:=@Nat.le_trans
abbrev Qzz:=@Int.eq_ofNat_of_zero_le
abbrev Qjq.{u}:=@List.forall_mem_nil.{u}
theorem Qjx.{u}{α:Type u}{p:α->Prop}{a:α}{l:List α}(h:p a/\∀x,x∈l->p x):∀x,x∈a::l->p x:=List.forall_mem_cons.2 h
theorem Qjz.{u}{α:Type u}[BEq α][LawfulBEq α]{a:α}{s:List α}(h:s.contains a=true):a∈s:=List.contains_iff_mem.1 h
theorem Qkq.{u}{α:Type u}{b:α}{s:Array α}(h:s[i]?=some b):∃h:i<s.size,s[i]=b:=Array.getElem?_eq_some_iff.1 h
abbrev Qkx.{u}:=@Option.some.injEq.{u}
abbrev Qkz:=@Go.Addr.mk.injEq
abbrev Qvq.{u}:=@List.setIfInBounds_toArray.{u}
abbrev Qvx.{u}:=@List.getElem?_cons_zero.{u}
abbrev Qvz.{u}:=@List.getElem?_toArray.{u}
abbrev Qwq.{u}:=@List.getElem?_cons_succ.{u}
abbrev Qwx.{u}:=@List.set_cons_succ.{u}
abbrev Qwz.{u}:=@List.set_cons_zero.{u}
abbrev Qyq.{u}:=@List.drop_succ_cons.{u}
abbrev Qyx.{u}:=@List.take_succ_cons.{u}
abbrev Qyz.{u}:=@List.take_zero.{u}
abbrev Xqq.{u}:=@List.drop_zero.{u}
abbrev Xqx.{u}:=@List.nil_append.{u}
abbrev Xqz.{u}:=@List.cons_append.{u}
abbrev Xxq:=@Bool.or_eq_false_iff
abbrev Xxx:=@Bool.and_eq_true
abbrev Xxz:=@Calls.regrown_of
abbrev Xzq:=@bodyPost_ret
abbrev Xzx:=@Nat.lt_of_lt_of_le
theorem qa2{a b:Prop}(c:a)(d:b):Go.RowKit.Hid (a/\b):=⟨c,d⟩
theorem qa3{a b c:Prop}(d:a)(f:b)(e:c):Go.RowKit.Hid (a/\b/\c):=⟨d,f,e⟩
theorem qa4{a b d c:Prop}(e:a)(h:b)(g:d)(f:c):Go.RowKit.Hid (a/\b/\d/\c):=⟨e,h,g,f⟩
theorem qa5{a c e d b:Prop}(f:a)(j:c)(i:e)(g:d)(h:b):Go.RowKit.Hid (a/\c/\e/\d/\b):=⟨f,j,i,g,h⟩
theorem qa6{a d f e c b:Prop}(g:a)(l:d)(k:f)(h:e)(j:c)(i:b):Go.RowKit.Hid (a/\d/\f/\e/\c/\b):=⟨g,l,k,h,j,i⟩
theorem qa7{a e g f c b d:Prop}(h:a)(n:e)(m:g)(j:f)(l:c)(k:b)(i:d):Go.RowKit.Hid (a/\e/\g/\f/\c/\b/\d):=⟨h,n,m,j,l,k,i⟩
theorem qa8{a e h g c b d f:Prop}(i:a)(p:e)(o:h)(k:g)(m:c)(l:b)(j:d)(n:f):Go.RowKit.Hid (a/\e/\h/\g/\c/\b/\d/\f):=⟨i,p,o,k,m,l,j,n⟩
theorem hid{p:Prop}(h:p):Go.RowKit.Hid p:=h
theorem nlr:n<=n:=Nat.le_refl n
theorem brf{B:Nat}:Go.RowKit.Below B w w:=Go.RowKit.Below.refl B w
theorem ah{f:Nat}{args:Array Value}{R:Ending->World->Prop}
  (h:Calls P f args w λe a=>e = .returned v/\a=w) (k:R (.returned v) w):Calls P f args w R :=
 h.mono (by rintro e a ⟨rfl,rfl⟩;exact k)
def inB(n low high:Int):Bool:=decide (low<=n/\n<=high)
theorem au{n:Int}(h:inB n r W=true):r<=n/\n<=W:=by simpa[inB] using h
theorem Qc{n:Int}(h:inB n r W=false):¬(r<=n/\n<=W):=by simpa[inB] using h
theorem bw{n:Int}(h:r<=n/\n<=W):inB n r W=true:=by simpa[inB] using h
theorem Y8{n:Int}(h:¬(r<=n/\n<=W)):inB n r W=false:=by simpa[inB] using h
def ax(n:Nat)(bad:Nat->Bool):Bool:=(List.range n).any bad
theorem cu{bad:Nat->Bool}(h:∀j,j<n->bad j=false):ax n bad=false:=by
 unfold ax;rw[List.any_eq_false];intro x hx;simp[h x (List.mem_range.1 hx)]
theorem dv{k:Nat}{bad:Nat->Bool}(a:k<n)(h:bad k=true):ax n bad=true:=by
 unfold ax;rw[List.any_eq_true];exact⟨k,List.mem_range.2 a,h⟩
theorem dk{bad:Nat->Bool}(h:ax n bad=false):∀j,j<n->bad j=false:=by
 intro j b;cases a:bad j
 .rfl
 rw[dv b a] at h;cases h
theorem Yh{bad:Nat->Bool}(h:ax n bad=true):∃j,j<n/\bad j=true:=by
 unfold ax at h;rw[List.any_eq_true] at h;obtain⟨x,hx,a⟩:=h;exact⟨x,List.mem_range.1 hx,a⟩
theorem pe{f g:Nat->Bool}(h:∀j,j<n->f j=g j):ax n f=ax n g:=by
 cases b:ax n g
 .exact cu λj a=>(h j a).trans (dk b j a)
 obtain⟨j,a,c⟩:=Yh b;exact dv a ((h j a).trans c)
theorem Ev(n:Nat)(f:Nat->Bool):ax (n+1) f=(ax n f||f n):=by
 unfold ax;rw[List.range_succ];simp
structure Bin where
 front:Bool
 room:Int
 low:Int
 high:Int
def Bin.val(x:Bin):Value := .agg #[.bool x.front,.int .i64 x.room,.int .i64 x.low,.int .i64 x.high]
def rm(x:Bin):Bool := !inB x.room 0 1000 || !inB x.low 0 x.high||decide (200<x.high)
def qw(x:Int):Bool := !inB x 1 9
def qr(x:Int):Bool := !inB x 0 200
theorem Ex(x:Bin):rm x=(!inB x.room 0 1000 || !inB x.high 0 200 || !inB x.low 0 x.high):=by
 unfold rm inB;rw[Bool.eq_iff_iff];simp only[Bool.or_eq_true,Bool.not_eq_true',decide_eq_true_eq,decide_eq_false_iff_not];omega
def xp(w:World)(a:Option Addr)(n:Nat)(z:Nat->Int):Prop :=
 ∀i,i<n->∃b o,a=some ⟨b,o,none⟩/\b<w.heap.size/\w.cell? ⟨b,o+i,none⟩=some (.int .i64 (z i))
theorem xp.below{a:Option Addr}{z:Nat->Int}(h:xp w a n z)(e:Below w.heap.size w d):xp d a n z:=by
 intro i hi;obtain⟨b,o,f,c,hc⟩:=h i hi;exact⟨b,o,f,Xzx c e.size,(e.cell (p:=⟨b,o+i,none⟩) c).trans hc⟩
def tu(w:World)(a:Option Addr)(n:Nat)(z:Nat->Bin):Prop :=
 ∀i,i<n->∃b o,a=some ⟨b,o,none⟩/\b<w.heap.size/\w.cell? ⟨b,o+i*4,none⟩=some (.bool (z i).front) /\
  w.cell? ⟨b,o+i*4+1,none⟩=some (.int .i64 (z i).room)/\w.cell? ⟨b,o+i*4+2,none⟩=some (.int .i64 (z i).low) /\
  w.cell? ⟨b,o+i*4+3,none⟩=some (.int .i64 (z i).high)
theorem tu.below{e:World}{a:Option Addr}{z:Nat->Bin}(h:tu w a n z)(d:Below w.heap.size w e):tu e a n z:=by
 intro i hi;obtain⟨b,o,j,c,f,l,k,g⟩:=h i hi;exact⟨b,o,j,Xzx c d.size,(d.cell (p:=⟨b,o+i*4,none⟩) c).trans f,(d.cell (p:=⟨b,o+i*4+1,none⟩) c).trans l,
  (d.cell (p:=⟨b,o+i*4+2,none⟩) c).trans k,(d.cell (p:=⟨b,o+i*4+3,none⟩) c).trans g⟩
structure Rw where
 a:Option Addr
 n:Nat
 c:Nat
 z:Nat->Int
def Rw.val(r:Rw):Value := .slice r.a r.n r.c
structure Rw.At(w:World)(r:Rw):Prop where
 le:r.n<=r.c
 cap:r.c<=maxLen
 ints:xp w r.a r.n r.z
theorem Rw.At.below{r:Rw}(h:r.At w)(b:Below w.heap.size w a):r.At a:=⟨h.le,h.cap,h.ints.below b⟩
def Gc(w:World)(a:Option Addr)(n:Nat)(r:Nat->Rw):Prop :=
 ∀i,i<n->∃b o,a=some ⟨b,o,none⟩/\b<w.heap.size/\w.cell? ⟨b,o+i,none⟩=some (.slice (r i).a (r i).n (r i).c)/\(r i).At w
theorem Gc.below{e:World}{a:Option Addr}{z:Nat->Rw}(h:Gc w a n z)(c:Below w.heap.size w e):Gc e a n z:=by
 intro i hi;obtain⟨b,o,f,d,hc,g⟩:=h i hi;exact⟨b,o,f,Xzx d c.size,(c.cell (p:=⟨b,o+i,none⟩) d).trans hc,g.below c⟩
structure Pl where
 ab:Option Addr
 nb:Nat
 cb:Nat
 zb:Nat->Bin
 sa:Option Addr
 ns:Nat
 cs:Nat
 zs:Nat->Int
variable{p:Pl}
def Pl.val(p:Pl):Value := .agg #[.slice p.ab p.nb p.cb,.slice p.sa p.ns p.cs]
structure Pl.At(w:World)(p:Pl):Prop where
 leb:p.nb<=p.cb
 capb:p.cb<=maxLen
 bins:tu w p.ab p.nb p.zb
 les:p.ns<=p.cs
 caps:p.cs<=maxLen
 sizes:xp w p.sa p.ns p.zs
theorem Pl.At.below{b:World}(h:p.At w)(a:Below w.heap.size w b):p.At b:=⟨h.leb,h.capb,h.bins.below a,h.les,h.caps,h.sizes.below a⟩
def et(p:Pl):Int :=
 if inB p.nb 1 6&&inB p.ns 1 3 then(if ax p.nb (λi=>rm (p.zb i))||ax p.ns (λi=>qw (p.zs i)) then 3 else 0) else 2
structure Sh where
 a:Option Addr
 n:Nat
 c:Nat
 r:Nat->Rw
def Sh.val(s:Sh):Value := .slice s.a s.n s.c
structure Sh.At(w:World)(s:Sh):Prop where
 le:s.n<=s.c
 cap:s.c<=maxLen
 rows:Gc w s.a s.n s.r
theorem Sh.At.below{s:Sh}(h:s.At w)(b:Below w.heap.size w a):s.At a:=⟨h.le,h.cap,h.rows.below b⟩
def pg(p:Pl)(r:Rw):Bool:=((r.n:Int) !=(p.ns:Int))||ax r.n (λi=>qr (r.z i))
def fa(p:Pl)(s:Sh):Int :=
 if et p==0 then(if ((s.n:Int) !=(p.nb:Int))||ax s.n (λi=>pg p (s.r i)) then 1 else 0) else et p
structure Rr(p:Pl):Prop where
 nb1:1<=p.nb
 nb6:p.nb<=6
 ns1:1<=p.ns
 ns3:p.ns<=3
 bins:∀i,i<p.nb->rm (p.zb i)=false
 sizes:∀i,i<p.ns->1<=p.zs i/\p.zs i<=9
theorem Jz(h:et p=0):Rr p:=by
 unfold et at h;cases d:(inB p.nb 1 6&&inB p.ns 1 3)
 .simp[d] at h
 rw[d] at h;simp only[if_true] at h;cases e:(ax p.nb (λi=>rm (p.zb i))||ax p.ns (λi=>qw (p.zs i)))
 .rw[Xxx] at d;have a:=au d.1;have b:=au d.2;rw[Xxq] at e;refine⟨by omega,by omega,by omega,by omega,dk e.1,λi hi => ?_⟩;have c:=dk e.2 i hi;simp only[qw,Bool.not_eq_false'] at c;exact au c
 simp[e] at h
structure vz(p:Pl)(s:Sh):Prop where
 pl:Rr p
 n:s.n=p.nb
 len:∀i,i<s.n->(s.r i).n=p.ns
 num:∀i,i<s.n->∀j,j<p.ns->0<=(s.r i).z j/\(s.r i).z j<=200
theorem wh{s:Sh}(h:fa p s=0):et p=0/\vz p s:=by
 unfold fa at h;by_cases d:et p=0;rotate_left
 .simp[d] at h
 simp only[d,beq_self_eq_true,if_true] at h;cases e:(((s.n:Int) !=(p.nb:Int))||ax s.n (λi=>pg p (s.r i)))
 .rw[Xxq] at e;obtain⟨a,b⟩:=e;have l:s.n=p.nb:=by have k:(s.n:Int)=(p.nb:Int):=(by simpa using a);omega
  have f:∀i,i<s.n->(s.r i).n=p.ns/\∀j,j<(s.r i).n->qr ((s.r i).z j)=false:=by
   intro i hi;have c:=dk b i hi;simp only[pg,Xxq] at c;exact⟨by have k:((s.r i).n:Int)=(p.ns:Int):=(by simpa using c.1);omega,dk c.2⟩
  refine⟨d,Jz d,l,λi hi=>(f i hi).1,λi hi j g => ?_⟩;have c:=(f i hi).2 j (by rw[(f i hi).1];exact g);simp only[qr,Bool.not_eq_false'] at c;exact au c
 simp[e] at h
def ff(z zs:Nat->Int):Nat->Int
 | 0=>0
 | k+1=>ff z zs k+z k*zs k
def cv(z:Nat->Int):Nat->Int
 | 0=>0
 | k+1=>cv z k+z k
theorem Eg{a b:Int}(c:0<=a/\a<=200)(e:1<=b/\b<=9):0<=a*b/\a*b<=1800:=by
 obtain⟨d,a1⟩:=c;have:b=1\/b=2\/b=3\/b=4\/b=5\/b=6\/b=7\/b=8\/b=9:=by omega
 rcases this with rfl|rfl|rfl|rfl|rfl|rfl|rfl|rfl|rfl<;>omega
theorem yh{z zs:Nat->Int}{n:Nat}(h:∀j,j<n->(0<=z j/\z j<=200)/\1<=zs j/\zs j<=9):∀k,k<=n->0<=ff z zs k/\ff z zs k<=1800*k
 | 0,_=>by simp[ff]
 | k+1,hk=>by
  have a:=yh h k (by omega);have:=Eg (h k (by omega)).1 (h k (by omega)).2;simp only[ff];omega
theorem El{z:Nat->Int}{n:Nat}(h:∀j,j<n->0<=z j/\z j<=200):∀k,k<=n->0<=cv z k/\cv z k<=200*k
 | 0,_=>by simp[cv]
 | k+1,hk=>by
  have a:=El h k (by omega);have:=h k (by omega);simp only[cv];omega
theorem En{z z' zs:Nat->Int}:∀{n:Nat},(∀j,j<n->z j=z' j)->ff z zs n=ff z' zs n
 | 0,_=>rfl
 | n+1,h=>by simp only[ff];rw[En (n:=n) λj a=>h j (by omega),h n (by omega)]
theorem ta{z z':Nat->Int}:∀{n:Nat},(∀j,j<n->z j=z' j)->cv z n=cv z' n
 | 0,_=>rfl
 | n+1,h=>by simp only[cv];rw[ta (n:=n) λj a=>h j (by omega),h n (by omega)]
def vw(p:Pl)(s:Sh)(bin:Int):Int:=if fa p s==0 then(if inB bin 0 ((s.n:Int)-1) then 0 else 3) else fa p s
def H9(p:Pl)(s:Sh)(bin:Int):Int:=if vw p s bin==0 then ff (s.r bin.toNat).z p.zs p.ns else 0
def H6(p:Pl)(s:Sh)(good:Int):Int:=if fa p s==0 then(if inB good 0 ((p.ns:Int)-1) then 0 else 3) else fa p s
def Mk(p:Pl)(s:Sh)(good:Int):Int:=if H6 p s good==0 then cv (λi=>(s.r i).z good.toNat) s.n else 0
def vt(p:Pl)(s:Sh)(bin good:Int):Int:=if fa p s==0 then(if inB bin 0 ((p.nb:Int)-1)&&inB good 0 ((p.ns:Int)-1) then 0 else 3) else fa p s
def F3(p:Pl)(s:Sh)(bin good n:Int):Int :=
 if vt p s bin good==0 then(if inB n (-((s.r bin.toNat).z good.toNat)) (200-(s.r bin.toNat).z good.toNat) then 0 else 3) else vt p s bin good
def F4(s:Sh)(bin good n:Int)(i j:Nat):Int:=if i=bin.toNat/\j=good.toNat then(s.r i).z j+n else(s.r i).z j
def M0(p:Pl)(s:Sh)(bin good n:Int)(w':World)(v:Value):Prop :=
 if F3 p s bin good n=0 then ∃s':Sh,v=s'.val/\s'.At w'/\s'.n=s.n/\∀i,i<s.n->(s'.r i).n=(s.r i).n/\∀j,j<(s.r i).n->(s'.r i).z j=F4 s bin good n i j
 else v = .slice none 0 0
theorem M0.below{s:Sh}{bin good n:Int}{b:World}(h:M0 p s bin good n w v)(d:Below w.heap.size w b):M0 p s bin good n b v:=by
 unfold M0 at *
 split
 .rename_i a;rw[if_pos a] at h;obtain⟨e,g,f,c⟩:=h;exact⟨e,g,f.below d,c⟩
 rename_i a
 rwa[if_neg a] at h
theorem F8{s:Sh}{bin good:Int}(a:fa p s=0):vt p s bin good=if inB bin 0 ((s.n:Int)-1)&&inB good 0 ((p.ns:Int)-1) then 0 else 3:=by
 have:=(wh a).2.n;simp[vt,a,this]
def zt(z:Int):UInt8:=UInt8.ofNat (z%256).toNat
theorem M9(z:Int):((zt z).toNat:Int)=z%256:=by
 unfold zt;have b:0<=z%256:=Int.emod_nonneg _ (by decide);have c:z%256<256:=Int.emod_lt_of_pos _ (by decide);have a:(UInt8.ofNat (z%256).toNat).toNat=(z%256).toNat%256:=rfl;rw[a];omega
def o7(z:Int):Bool := !inB z 0 255
theorem Yk{z:Int}(h:o7 z=false):((zt z).toNat:Int)=z:=by
 unfold o7 at h;rw[Bool.not_eq_false'] at h;have:=au h;rw[M9];omega
def rdN(t:List UInt8)(i:Nat):Int:=((t.getD i 0).toNat:Int)
theorem v9(t:List UInt8)(i:Nat):0<=rdN t i/\rdN t i<=255:=by
 unfold rdN;have:=(t.getD i 0).toNat_lt;omega
theorem co(n low high:Int)(w:World):
  Calls prog 63 #[.int .i64 n,.int .i64 low,.int .i64 high] w λe a=>e = .returned (.bool (inB n low high))/\a=w:=by
 unfold inB;go_enter func63,ntmps63
 go_wp2
 all_goals go_ret
 all_goals refine⟨?_,rfl⟩
 all_goals simp
 all_goals omega
theorem cg(n low high:Int)(w:World):
  Calls prog 23 #[.int .i64 n,.int .i64 low,.int .i64 high] w λe a=>e = .returned (.bool (inB n low high))/\a=w:=by
 unfold inB;go_enter func23,ntmps23
 go_wp2
 all_goals go_ret
 all_goals refine⟨?_,rfl⟩
 all_goals simp
 all_goals omega
theorem Pe(x:Bin)(w:World):
  Calls prog 123 #[x.val] w λe a=>e = .returned (.bool (rm x))/\Below w.heap.size w a:=by
 unfold rm Bin.val;go_enter func123,ntmps123;go_wp2_with(go_at_call 63;refine ah (co _ _ _ _) ?_)
 all_goals go_ret
 all_goals exact⟨by simp[*],brf.alloc nlr _⟩
theorem Pf(x:Int)(w:World):
  Calls prog 124 #[.int .i64 x] w λe a=>e = .returned (.bool (qw x))/\a=w:=by
 unfold qw;go_enter func124,ntmps124;go_wp2_with(go_at_call 63;refine ah (co _ _ _ _) ?_)
 all_goals go_ret
 all_goals exact⟨rfl,rfl⟩
theorem aec(f:Nat)(caps:Array Value)(bad:Nat->Bool)(a:Option Addr)(n c:Nat)(w:World)(F:n<=c)(hc:c<=maxLen)(z:Nat->Int)(t:xp w a n z)
  (D:∀args w,(callFunc f args).run prog w = .ok (.enter f args) w)
  (B:Hid (∀i d,i<n->Below w.heap.size w d->Calls prog f (#[.int .i64 (z i)]++caps) d λe q=>e = .returned (.bool (bad i))/\Below d.heap.size d q)) :
  Calls prog 126 #[.slice a n c,.func (.func f) #[] caps] w λe q=>∃r:Int,e = .returned (.int .i64 r)/\decide (0<=r)=ax n bad/\Below w.heap.size w q:=by
 unfold maxLen at hc;go_enter func126,ntmps126;go_wp2_with fail
 go_loopw [8] (λi d=>∃k:Nat,k<=n/\i = .int .i64 k/\(∀j,j<k->bad j=false)/\Below w.heap.size w d) (λi _=>n-(intOf i).toNat)
 case atStart=>exact⟨0,Qxz _,rfl,λj u=>absurd u (Qzq _),Below.refl _ _⟩
 obtain⟨k,E,rfl,m,h⟩:=hrel;have y:=hid m;clear m;by_cases l:k<n;rotate_left
 .go_wp2_with fail;go_ret;have v:k=n:=by omega
  subst v;exact⟨_,rfl,by rw[cu y.out];decide,h⟩
 obtain⟨b,o,rfl,_,A⟩:=(t.below h) k l;clear t;go_wp2_with fail;refine(B.out k wr l h).mono ?_;rintro e d ⟨rfl,s⟩;have p:=h.trans (s.mono h.size);cases g:bad k
 .go_wp2_with fail;go_roundw
  case measure=>simp[intOf];omega
  refine⟨k+1,by omega,by go_num,?_,p⟩;intro j u;by_cases x:j=k
  .rw[x,g]
  exact y.out j (by omega)
 go_wp2_with fail;go_ret;exact⟨_,rfl,by rw[dv l g];simp,p⟩
theorem aed(f:Nat)(caps:Array Value)(bad:Nat->Bool)(a:Option Addr)(n c:Nat)(w:World)(E:n<=c)(hc:c<=maxLen)(r:Nat->Rw)(t:Gc w a n r)
  (B:∀args w,(callFunc f args).run prog w = .ok (.enter f args) w)
  (A:Hid (∀i d,i<n->Below w.heap.size w d->Calls prog f (#[.slice (r i).a (r i).n (r i).c]++caps) d λe q=>e = .returned (.bool (bad i))/\Below d.heap.size d q)) :
  Calls prog 127 #[.slice a n c,.func (.func f) #[] caps] w λe q=>∃r:Int,e = .returned (.int .i64 r)/\decide (0<=r)=ax n bad/\Below w.heap.size w q:=by
 unfold maxLen at hc;go_enter func127,ntmps127;go_wp2_with fail
 go_loopw [8] (λi d=>∃k:Nat,k<=n/\i = .int .i64 k/\(∀j,j<k->bad j=false)/\Below w.heap.size w d) (λi _=>n-(intOf i).toNat)
 case atStart=>exact⟨0,Qxz _,rfl,λj u=>absurd u (Qzq _),Below.refl _ _⟩
 obtain⟨k,D,rfl,m,h⟩:=hrel;have y:=hid m;clear m;by_cases l:k<n;rotate_left
 .go_wp2_with fail;go_ret;have v:k=n:=by omega
  subst v;exact⟨_,rfl,by rw[cu y.out];decide,h⟩
 obtain⟨b,o,rfl,_,z,_⟩:=(t.below h) k l;clear t;go_wp2_with fail;refine(A.out k wr l h).mono ?_;rintro e d ⟨rfl,s⟩;have p:=h.trans (s.mono h.size);cases g:bad k
 .go_wp2_with fail;go_roundw
  case measure=>simp[intOf];omega
  refine⟨k+1,by omega,by go_num,?_,p⟩;intro j u;by_cases x:j=k
  .rw[x,g]
  exact y.out j (by omega)
 go_wp2_with fail;go_ret;exact⟨_,rfl,by rw[dv l g];simp,p⟩
theorem aeb(f:Nat)(caps:Array Value)(bad:Nat->Bool)(a:Option Addr)(n c:Nat)(w:World)(H:n<=c)(hc:c<=maxLen)(z:Nat->Bin)(v:tu w a n z)
  (G:∀args w,(callFunc f args).run prog w = .ok (.enter f args) w)
  (F:Hid (∀i d,i<n->Below w.heap.size w d->Calls prog f (#[(z i).val]++caps) d λe q=>e = .returned (.bool (bad i))/\Below d.heap.size d q)) :
  Calls prog 157 #[.slice a n c,.func (.func f) #[] caps] w λe q=>∃r:Int,e = .returned (.int .i64 r)/\decide (0<=r)=ax n bad/\Below w.heap.size w q:=by
 unfold maxLen at hc;go_enter func157,ntmps157;go_wp2_with fail
 go_loopw [8] (λi d=>∃k:Nat,k<=n/\i = .int .i64 k/\(∀j,j<k->bad j=false)/\Below w.heap.size w d) (λi _=>n-(intOf i).toNat)
 case atStart=>exact⟨0,Qxz _,rfl,λj x=>absurd x (Qzq _),Below.refl _ _⟩
 obtain⟨k,J,rfl,m,l⟩:=hrel;have D:=hid m;clear m;by_cases g:k<n;rotate_left
 .go_wp2_with fail;go_ret;have s:k=n:=by omega
  subst s;exact⟨_,rfl,by rw[cu D.out];decide,l⟩
 obtain⟨b,o,rfl,_,B,E,t,y⟩:=(v.below l) k g;clear v;go_wp2_with fail;refine(F.out k wr g l).mono ?_;rintro e d ⟨rfl,u⟩;have p:=l.trans (u.mono l.size);cases h:bad k
 .go_wp2_with fail;go_roundw
  case measure=>simp[intOf];omega
  refine⟨k+1,by omega,by go_num,?_,p⟩;intro j x;by_cases A:j=k
  .rw[A,h]
  exact D.out j (by omega)
 go_wp2_with fail;go_ret;exact⟨_,rfl,by rw[dv g h];simp,p⟩
theorem aau(f:Nat)(caps:Array Value)(bad:Nat->Bool)(a:Option Addr)(n c:Nat)(w:World)(p:n<=c)(hc:c<=maxLen)(z:Nat->Int)(j:xp w a n z)
  (l:∀args w,(callFunc f args).run prog w = .ok (.enter f args) w)
  (o:Hid (∀i b,i<n->Below w.heap.size w b->Calls prog f (#[.int .i64 (z i)]++caps) b λe d=>e = .returned (.bool (bad i))/\Below b.heap.size b d)) :
  Calls prog 66 #[.slice a n c,.func (.func f) #[] caps] w λe d=>e = .returned (.bool (ax n bad))/\Below w.heap.size w d:=by
 have g:=hc;unfold maxLen at hc;go_enter func66,ntmps66;go_wp2_with fail;refine(aec f caps bad a n c w p g z j l o).mono ?_;rintro e b ⟨r,rfl,h,k⟩;have m:=hid h;clear h;go_wp2_with fail;go_ret;exact⟨by rw[<-m.out];rfl,k⟩
theorem ad9(f:Nat)(caps:Array Value)(bad:Nat->Bool)(a:Option Addr)(n c:Nat)(w:World)(p:n<=c)(hc:c<=maxLen)(r:Nat->Rw)(j:Gc w a n r)
  (l:∀args w,(callFunc f args).run prog w = .ok (.enter f args) w)
  (o:Hid (∀i b,i<n->Below w.heap.size w b->Calls prog f (#[.slice (r i).a (r i).n (r i).c]++caps) b λe d=>e = .returned (.bool (bad i))/\Below b.heap.size b d)) :
  Calls prog 67 #[.slice a n c,.func (.func f) #[] caps] w λe d=>e = .returned (.bool (ax n bad))/\Below w.heap.size w d:=by
 have g:=hc;unfold maxLen at hc;go_enter func67,ntmps67;go_wp2_with fail;refine(aed f caps bad a n c w p g r j l o).mono ?_;rintro e b ⟨r,rfl,h,k⟩;have m:=hid h;clear h;go_wp2_with fail;go_ret;exact⟨by rw[<-m.out];rfl,k⟩
theorem ac6(f:Nat)(caps:Array Value)(bad:Nat->Bool)(a:Option Addr)(n c:Nat)(w:World)(p:n<=c)(hc:c<=maxLen)(z:Nat->Bin)(j:tu w a n z)
  (l:∀args w,(callFunc f args).run prog w = .ok (.enter f args) w)
  (o:Hid (∀i b,i<n->Below w.heap.size w b->Calls prog f (#[(z i).val]++caps) b λe d=>e = .returned (.bool (bad i))/\Below b.heap.size b d)) :
  Calls prog 125 #[.slice a n c,.func (.func f) #[] caps] w λe d=>e = .returned (.bool (ax n bad))/\Below w.heap.size w d:=by
 have g:=hc;unfold maxLen at hc;go_enter func125,ntmps125;go_wp2_with fail;refine(aeb f caps bad a n c w p g z j l o).mono ?_;rintro e b ⟨r,rfl,h,k⟩;have m:=hid h;clear h;go_wp2_with fail;go_ret;exact⟨by rw[<-m.out];rfl,k⟩
open Go.Shelf
theorem ab0(c:Below w.heap.size w a):(∀b o,b<w.heap.size->a.cell? ⟨b,o,none⟩=w.cell? ⟨b,o,none⟩)/\(∀b o,b<w.heap.size->a.frozen? ⟨b,o,none⟩=w.frozen? ⟨b,o,none⟩):=
 ⟨λb o h=>c.cell (p:=⟨b,o,none⟩) h,λb o h=>c.frozen (p:=⟨b,o,none⟩) h⟩
theorem Aa(p:Pl)(w:World)(o:p.At w):
  Calls prog 61 #[p.val] w λe r=>e = .returned (.int .i64 (et p))/\Below w.heap.size w r:=by
 obtain⟨leb,capb,bins,les,caps,sizes⟩:=o;have b:=capb;have d:=caps;unfold Pl.val;unfold maxLen at capb caps;have b1:=bins.below ((Below.refl w.heap.size w).alloc nlr (.cells #[.slice p.ab p.nb p.cb,.slice p.sa p.ns p.cs] 25));cases c:inB p.nb 1 6
 .go_enter func61,ntmps61;go_wp2_with(go_at_call 63;refine ah (co _ _ _ _) ?_);go_ret;exact⟨by simp[et,c],brf.alloc nlr _⟩
 cases f:inB p.ns 1 3
 .go_enter func61,ntmps61;go_wp2_with(go_at_call 63;refine ah (co _ _ _ _) ?_);go_ret;exact⟨by simp[et,f],brf.alloc nlr _⟩
 go_enter func61,ntmps61;go_wp2_with(go_at_call 63;refine ah (co _ _ _ _) ?_);refine(ac6 123 #[] (λi=>rm (p.zb i)) _ _ _ _ leb b p.zb b1 (enters_of func123 (by kernel_rfl) rfl) (λi j _ _=>by rw[Array.append_empty];exact Pe _ _)).mono ?_;rintro e j ⟨rfl,k⟩;obtain⟨hc,s⟩:=ab0 k;have a:Below w.heap.size w j:=((Below.refl w.heap.size w).alloc nlr _).trans (k.mono (by simp));have s1:=sizes.below a;cases l:ax p.nb (λi=>rm (p.zb i))
 .go_wp2_with fail;refine(aau 124 #[] (λi=>qw (p.zs i)) _ _ _ _ les d p.zs s1 (enters_of func124 (by kernel_rfl) rfl) (λi q _ _=>by rw[Array.append_empty];exact(Pf _ _).mono λ_ _ h=>⟨h.1,h.2▸Below.refl _ _⟩)).mono ?_;rintro e q ⟨rfl,n⟩;have g:=a.trans (n.mono a.size);cases m:ax p.ns (λi=>qw (p.zs i))
  .go_wp2_with fail;go_ret;exact⟨by simp[et,c,f,l,m],g⟩
  go_wp2_with fail;go_ret;exact⟨by simp[et,c,f,m],g⟩
 go_wp2_with fail;go_ret;exact⟨by simp[et,c,f,l],a⟩
theorem Af(p:Pl)(w:World)(A:p.At w):
  Calls prog 9 #[p.val] w λe G=>e = .returned (.int .i64 (et p))/\Below w.heap.size w G:=by
 obtain⟨ab,nb,cb,zb,sa,ns,cs,zs⟩:=p;obtain⟨leb,capb,bins,les,caps,sizes⟩:=A;dsimp only at leb capb bins les caps sizes;simp only[Pl.val];unfold maxLen at capb caps;cases x:inB nb 1 6
 .go_enter func9,ntmps9;go_wp2_with(go_at_call 23;refine ah (cg _ _ _ _) ?_);go_ret;exact⟨by simp[et,x],brf.alloc nlr _⟩
 cases u:inB ns 1 3
 .go_enter func9,ntmps9;go_wp2_with(go_at_call 23;refine ah (cg _ _ _ _) ?_);go_ret;exact⟨by simp[et,u],brf.alloc nlr _⟩
 have a:=qa2 x u;go_enter func9,ntmps9;go_wp2_with(go_at_call 23;refine ah (cg _ _ _ _) ?_);clear x u
 go_loopw [3] (λi v=>∃k:Nat,k<=nb/\i = .int .i64 k/\(∀j,j<k->rm (zb j)=false)/\Below (w.heap.size+1) (w.alloc (.cells #[.slice ab nb cb,.slice sa ns cs] 25)) v) (λi _=>nb-(intOf i).toNat)
 case atStart=>exact⟨0,Qxz _,rfl,λj m=>absurd m (Qzq _),Below.refl _ _⟩
 obtain⟨k,F,rfl,h,f⟩:=hrel;have n:=hid h;clear h;have c:Below w.heap.size w wr:=((Below.refl w.heap.size w).alloc nlr _).trans (f.mono (by omega));have hs:w.heap.size+1<=wr.heap.size:=by have:=f.size;simpa using this
 have z:wr.cell? ⟨w.heap.size,0,none⟩=some (.slice ab nb cb):=(f.cell (p:=⟨w.heap.size,0,none⟩) (by simp)).trans (by simp);have c1:wr.cell? ⟨w.heap.size,1,none⟩=some (.slice sa ns cs):=(f.cell (p:=⟨w.heap.size,1,none⟩) (by simp)).trans (by simp);by_cases g:k<nb
 .obtain⟨b,o,rfl,J,H,M,L,K⟩:=(bins.below c) k g;have l:=Ex (zb k);cases d:rm (zb k)
  .rw[d] at l;have B:inB (zb k).room 0 1000=true/\inB (zb k).high 0 200=true/\inB (zb k).low 0 (zb k).high=true:=by simpa[and_assoc] using l.symm
   obtain⟨s,y,D⟩:=B;clear l;go_wp2_with(go_at_call 23;refine ah (cg _ _ _ _) ?_);go_roundw
   case measure=>simp[intOf];omega
   refine⟨k+1,by omega,by go_num,?_,f.alloc (by simpa using hs) _⟩;intro j m;by_cases r:j=k
   .rw[r,d]
   exact n.out j (by omega)
  rw[d] at l;have q:Hid (ax nb (λi=>rm (zb i))=true):=dv g d;cases s:inB (zb k).room 0 1000
  .clear l;go_wp2_with(go_at_call 23;refine ah (cg _ _ _ _) ?_);go_ret;exact⟨by simp[et,a.out.1,a.out.2,q.out],c.alloc (by omega) _⟩
  cases y:inB (zb k).high 0 200
  .clear l;go_wp2_with(go_at_call 23;refine ah (cg _ _ _ _) ?_);go_ret;exact⟨by simp[et,a.out.1,a.out.2,q.out],c.alloc (by omega) _⟩
  have D:inB (zb k).low 0 (zb k).high=false:=by simpa[s,y] using l.symm
  clear l;go_wp2_with(go_at_call 23;refine ah (cg _ _ _ _) ?_);go_ret;exact⟨by simp[et,a.out.1,a.out.2,q.out],c.alloc (by omega) _⟩
 go_wp2_with fail;have q:ax nb (λi=>rm (zb i))=false:=cu λj m=>n.out j (by omega);have E:=hid q;clear q g n bins
 go_loopw [5] (λi v=>∃k:Nat,k<=ns/\i = .int .i64 k/\(∀j,j<k->qw (zs j)=false)/\Below (w.heap.size+1) (w.alloc (.cells #[.slice ab nb cb,.slice sa ns cs] 25)) v) (λi _=>ns-(intOf i).toNat)
 case atStart=>exact⟨0,Qxz _,rfl,λj m=>absurd m (Qzq _),f⟩
 clear f c hs z c1;obtain⟨k,F,rfl,h,f⟩:=hrel;have n:=hid h;clear h;have c:Below w.heap.size w wr:=((Below.refl w.heap.size w).alloc nlr _).trans (f.mono (by omega));have c1:wr.cell? ⟨w.heap.size,1,none⟩=some (.slice sa ns cs):=(f.cell (p:=⟨w.heap.size,1,none⟩) (by simp)).trans (by simp);by_cases g:k<ns
 .obtain⟨b,o,rfl,J,H⟩:=(sizes.below c) k g;cases s:inB (zs k) 1 9
  .have t:Hid (ax ns (λi=>qw (zs i))=true):=dv g (by simp[qw,s]);go_wp2_with(go_at_call 23;refine ah (cg _ _ _ _) ?_);go_ret;exact⟨by simp[et,a.out.1,a.out.2,t.out],c⟩
  have d:Hid (qw (zs k)=false):=by show qw (zs k)=false;simp[qw,s]
  go_wp2_with(go_at_call 23;refine ah (cg _ _ _ _) ?_);go_roundw
  case measure=>simp[intOf];omega
  refine⟨k+1,by omega,by go_num,?_,f⟩;intro j m;by_cases r:j=k
  .rw[r,d.out]
  exact n.out j (by omega)
 go_wp2_with fail;go_ret;have t:ax ns (λi=>qw (zs i))=false:=cu λj m=>n.out j (by omega);exact⟨by simp[et,a.out.1,a.out.2,E.out,t],c⟩
theorem Oc(x:Int)(w:World):
  Calls prog 64 #[.int .i64 x] w λe a=>e = .returned (.bool (qr x))/\a=w:=by
 unfold qr;go_enter func64,ntmps64;go_wp2_with(go_at_call 63;refine ah (co _ _ _ _) ?_)
 all_goals go_ret
 all_goals exact⟨rfl,rfl⟩
theorem Oe(B f:Nat)(p:Pl)(r:Rw)(w:World)(o:r.At w)(les:p.ns<=p.cs)(caps:p.cs<=maxLen)
  (c1:w.cell? ⟨B,1,none⟩=some (.slice p.sa p.ns p.cs)) (c2:w.cell? ⟨f,0,none⟩=some (.func (.func 64) #[] #[])) :
  Calls prog 65 #[.slice r.a r.n r.c,.pointer (some ⟨B,0,none⟩),.pointer (some ⟨f,0,none⟩)] w λe m=>e = .returned (.bool (pg p r))/\Below w.heap.size w m:=by
 obtain⟨j,b,ints⟩:=o;have d:=b;unfold maxLen at b caps;cases g:((r.n:Int) !=(p.ns:Int))
 .go_enter func65,ntmps65;go_wp2_with fail;refine(aau 64 #[] (λi=>qr (r.z i)) _ _ _ _ j d r.z ints (enters_of func64 (by kernel_rfl) rfl) (λi k _ _=>by rw[Array.append_empty];exact(Oc _ _).mono λ_ _ h=>⟨h.1,h.2▸Below.refl _ _⟩)).mono ?_;rintro e k ⟨rfl,l⟩;go_wp2_with fail;go_ret;exact⟨by simp[pg,g],l⟩
 go_enter func65,ntmps65;go_wp2_with fail;go_ret;exact⟨by simp[pg,g],Below.refl _ _⟩
theorem ze(p:Pl)(s:Sh)(w:World)(d:p.At w)(hs:s.At w):
  Calls prog 32 #[p.val,s.val] w λe A=>e = .returned (.int .i64 (fa p s))/\Below w.heap.size w A:=by
 obtain⟨u,g,rows⟩:=hs;have h:=g;unfold maxLen at g;have leb:=d.leb;have capb:=d.capb;unfold maxLen at capb;have o:Below w.heap.size w (w.alloc (.cells #[.slice p.ab p.nb p.cb,.slice p.sa p.ns p.cs] 25)):=(Below.refl w.heap.size w).alloc nlr _;simp only[Pl.val,Sh.val];go_enter func32,ntmps32;go_wp2_with fail;refine(Aa p _ (d.below o)).mono ?_;rintro e b ⟨rfl,j⟩;have c:=o.trans (j.mono (by simp));have v:w.heap.size<b.heap.size:=by have:=j.size;simp at this;omega
 have D:b.cell? ⟨w.heap.size,0,none⟩=some (.slice p.ab p.nb p.cb):=(j.cell (p:=⟨w.heap.size,0,none⟩) (by simp)).trans (by simp);have c1:b.cell? ⟨w.heap.size,1,none⟩=some (.slice p.sa p.ns p.cs):=(j.cell (p:=⟨w.heap.size,1,none⟩) (by simp)).trans (by simp);by_cases l:et p=0;rotate_left
 .go_wp2_with fail;go_ret;exact⟨by simp[fa,l],c⟩
 cases t:((s.n:Int) !=(p.nb:Int));rotate_left
 .go_wp2_with fail;go_ret;exact⟨by simp[fa,l,t],c.alloc (by omega) _⟩
 go_wp2_with fail;have m:=c.alloc (by omega) (.cells #[Value.func (Fn.func 64) #[] #[]] 97);have f:=rows.below m;refine(ad9 65 #[.pointer (some ⟨w.heap.size,0,none⟩),.pointer (some ⟨b.heap.size,0,none⟩)] (λi=>pg p (s.r i)) _ _ _ _ u h s.r f (enters_of func65 (by kernel_rfl) rfl) ?_).mono ?_
 .intro i k hi a;obtain⟨_,_,_,_,_,x⟩:=(f.below a) i hi;have B:k.cell? ⟨w.heap.size,1,none⟩=some (.slice p.sa p.ns p.cs):=(a.cell (p:=⟨w.heap.size,1,none⟩) (by simp;omega)).trans (by simp[World.cell?_alloc_past,v,c1]);have z:k.cell? ⟨b.heap.size,0,none⟩=some (.func (.func 64) #[] #[]):=(a.cell (p:=⟨b.heap.size,0,none⟩) (by simp)).trans (by simp);exact Oe _ _ p (s.r i) k x d.les d.caps B z
 rintro e k ⟨rfl,a⟩;have q:=m.trans (a.mono (by simp;omega));cases y:ax s.n (λi=>pg p (s.r i))
 .go_wp2_with fail;go_ret;exact⟨by simp[fa,l,t,y],q⟩
 go_wp2_with fail;go_ret;exact⟨by simp[fa,l,y],q⟩
theorem Kp(p:Pl)(s:Sh)(w:World)(u:p.At w)(hs:s.At w):
  Calls prog 49 #[p.val,s.val] w λe w'=>e = .returned (.int .i64 (fa p s))/\Below w.heap.size w w':=by
 obtain⟨sa,t,sc,l⟩:=s;obtain⟨ac,B,rows⟩:=hs;dsimp only at ac B rows;unfold maxLen at B;have leb:=u.leb;have capb:=u.capb;have les:=u.les;have caps:=u.caps;unfold maxLen at capb caps;have v:Below w.heap.size w (w.alloc (.cells #[.slice p.ab p.nb p.cb,.slice p.sa p.ns p.cs] 25)):=(Below.refl w.heap.size w).alloc nlr _;simp only[Pl.val,Sh.val];go_enter func49,ntmps49;go_wp2_with fail;refine(Af p _ (u.below v)).mono ?_;rintro e r ⟨rfl,z⟩;have c:=v.trans (z.mono (by simp));have ad:w.heap.size<r.heap.size:=by have:=z.size;simp at this;omega
 have c0:r.cell? ⟨w.heap.size,0,none⟩=some (.slice p.ab p.nb p.cb):=(z.cell (p:=⟨w.heap.size,0,none⟩) (by simp)).trans (by simp);have c1:r.cell? ⟨w.heap.size,1,none⟩=some (.slice p.sa p.ns p.cs):=(z.cell (p:=⟨w.heap.size,1,none⟩) (by simp)).trans (by simp);have G:=rows.below c;clear z v rows u;by_cases H:et p=0;rotate_left
 .go_wp2_with fail;go_ret;exact⟨by simp[fa,H],c⟩
 cases T:((t:Int) !=(p.nb:Int));rotate_left
 .go_wp2_with fail;go_ret;exact⟨by simp[fa,H,T],c⟩
 have d:=qa2 H T;go_wp2_with fail;clear H T
 go_loopw [6] (λi Q=>∃k:Nat,k<=t/\i = .int .i64 k/\(∀j,j<k->pg p (l j)=false)/\Below r.heap.size r Q) (λi _=>t-(intOf i).toNat)
 case atStart=>exact⟨0,Qxz _,rfl,λj q=>absurd q (Qzq _),Below.refl _ _⟩
 obtain⟨k,hk,rfl,h,a⟩:=hrel;have V:=hid h;have d1:wr.cell? ⟨w.heap.size,1,none⟩=some (.slice p.sa p.ns p.cs):=(a.cell (p:=⟨w.heap.size,1,none⟩) ad).trans c1;clear h;by_cases D:k<t;rotate_left
 .go_wp2_with fail;go_ret;have E:ax t (λi=>pg p (l i))=false:=cu λj q=>V.out j (by omega);exact⟨by simp[fa,d.out.1,d.out.2,E],c.trans (a.mono c.size)⟩
 obtain⟨b,o,rfl,Y,F,W⟩:=G k D;obtain⟨L,m,ints⟩:=W;unfold maxLen at m;obtain⟨R,S⟩:∃R,R=l k:=⟨_,rfl⟩;rw[<-S] at F L m ints;have M:=hid S;obtain⟨ra,x,rc,f⟩:=R;dsimp only at F L m ints;have z1:=(a.cell (p:=⟨b,o+k,none⟩) Y).trans F;have Z0:=hid F;clear F S;cases P:((x:Int) !=(p.ns:Int));rotate_left
 .go_wp2_with fail
  go_quiet (fail)
  go_wp2_with fail;go_ret;have E:ax t (λi=>pg p (l i))=true:=dv D (by rw[<-M.out];simp[pg,P]);exact⟨by simp[fa,d.out.1,d.out.2,E],below_drewN (c.trans (a.mono c.size)) _⟩
 have H2:=hid P;go_wp2_with fail
 go_quiet (fail)
 go_wp2_with fail;have K:=below_drewN a nq;clear P
 go_loopw [7] (λi Q=>∃g:Nat,g<=x/\i = .int .i64 g/\(∀j,j<g->qr (f j)=false)/\Below r.heap.size r Q) (λi _=>x-(intOf i).toNat)
 case atStart=>exact⟨0,Qxz _,rfl,λj q=>absurd q (Qzq _),K⟩
 clear a K z1 d1;obtain⟨g,hg,rfl,h,a⟩:=hrel;have HM:=hid h;clear h;have z2:=(a.cell (p:=⟨b,o+k,none⟩) Y).trans Z0.out;by_cases J:g<x;rotate_left
 .have y:Hid (pg p (l k)=false):=by
   show pg p (l k)=false;rw[<-M.out];simp[pg,H2.out,cu (n:=x) (bad:=λi=>qr (f i)) λj q=>HM.out j (by omega)]
  go_wp2_with fail;go_roundw
  case measure=>simp[intOf];omega
  refine⟨k+1,by omega,by go_num,?_,a⟩;intro j q;by_cases A:j=k
  .rw[A,y.out]
  exact V.out j (by omega)
 obtain⟨b',o',rfl,U,y0⟩:=ints g J;have y1:=(a.cell (p:=⟨b',o'+g,none⟩) U).trans y0;clear y0;cases X:inB (f g) 0 200
 .have y:Hid (qr (f g)=true):=by show qr (f g)=true;simp[qr,X]
  go_wp2_with(go_at_call 23;refine ah (cg _ _ _ _) ?_);go_ret;have E:ax t (λi=>pg p (l i))=true:=dv D (by rw[<-M.out];simp[pg,dv (bad:=λi=>qr (f i)) J y.out]);exact⟨by simp[fa,d.out.1,d.out.2,E],c.trans (a.mono c.size)⟩
 have y:Hid (qr (f g)=false):=by show qr (f g)=false;simp[qr,X]
 go_wp2_with(go_at_call 23;refine ah (cg _ _ _ _) ?_);go_roundw
 case measure=>simp[intOf];omega
 refine⟨g+1,by omega,by go_num,?_,a⟩;intro j q;by_cases A:j=g
 .rw[A,y.out]
 exact HM.out j (by omega)
theorem dm(n:Nat)(k:Int)(w:World)(b:n<=maxLen):
  Calls prog 71 #[.int .i64 n,.int .i64 k] w λe a=>e = .returned (.bool (inB k 0 ((n:Int)-1)))/\a=w:=by
 unfold maxLen at b;go_enter func71,ntmps71;go_wp2_with(go_at_call 63;refine ah (co _ _ _ _) ?_);go_ret;exact⟨rfl,rfl⟩
theorem Am(p:Pl)(k:Int)(w:World)(c:p.nb<=p.cb)(b:p.cb<=maxLen):
  Calls prog 111 #[p.val,.int .i64 k] w λe a=>e = .returned (.bool (inB k 0 ((p.nb:Int)-1)))/\Below w.heap.size w a:=by
 unfold maxLen at b;simp only[Pl.val];go_enter func111,ntmps111;go_wp2_with(go_at_call 23;refine ah (cg _ _ _ _) ?_);go_ret;exact⟨rfl,brf.alloc nlr _⟩
theorem vn(p:Pl)(k:Int)(w:World)(c:p.ns<=p.cs)(b:p.cs<=maxLen):
  Calls prog 109 #[p.val,.int .i64 k] w λe a=>e = .returned (.bool (inB k 0 ((p.ns:Int)-1)))/\Below w.heap.size w a:=by
 unfold maxLen at b;simp only[Pl.val];go_enter func109,ntmps109;go_wp2_with(go_at_call 23;refine ah (cg _ _ _ _) ?_);go_ret;exact⟨rfl,brf.alloc nlr _⟩
theorem Vo(p:Pl)(s:Sh)(bin:Nat)(w:World)(K:p.At w)(hs:s.At w)(W:vz p s)(c:bin<s.n):
  Calls prog 155 #[p.val,s.val,.int .i64 bin] w λe V=>e = .returned (.int .i64 (ff (s.r bin).z p.zs p.ns))/\Below w.heap.size w V:=by
 obtain⟨pl,S,m,l⟩:=W;have v:=m bin c;have a:Hid (∀j,j<p.ns->(0<=(s.r bin).z j/\(s.r bin).z j<=200)/\1<=p.zs j/\p.zs j<=9):=λj B=>⟨l bin c j B,pl.sizes j B⟩;have D:=pl.ns3;obtain⟨ab,nb,cb,zb,sa,ns,cs,zs⟩:=p;obtain⟨_,_,_,les,caps,sizes⟩:=K;obtain⟨s0,sn,sc,J⟩:=s;obtain⟨G,t,rows⟩:=hs;dsimp only at v a les caps sizes G t rows c D;obtain⟨b,o,rfl,T,y,E⟩:=rows bin c;obtain⟨x,d,ints⟩:=E
 generalize hR:J bin=R at y x d ints v a
 obtain⟨ra,h,rc,q⟩:=R;dsimp only at y x d ints v a;subst v;have L:=hid hR;clear hR m l pl S rows;unfold maxLen at t d caps;simp only[Pl.val,Sh.val];go_enter func155,ntmps155;go_wp2_with fail
 go_loopw [7,8] (λu i P=>∃k:Nat,k<=h/\i = .int .i64 k/\u = .int .i64 (ff q zs k)/\Below (w.heap.size+1) (w.alloc (.cells #[.slice ab nb cb,.slice sa h cs] 25)) P) (λ_ i _=>h-(intOf i).toNat)
 case atStart=>exact⟨0,Qxz _,rfl,rfl,Below.refl _ _⟩
 obtain⟨k,M,rfl,rfl,A⟩:=hrel;have g:Below w.heap.size w wr:=((Below.refl w.heap.size w).alloc nlr _).trans (A.mono (by omega));have c1:wr.cell? ⟨w.heap.size,1,none⟩=some (.slice sa h cs):=(A.cell (p:=⟨w.heap.size,1,none⟩) (by simp)).trans (by simp);have z1:=(g.cell (p:=⟨b,o+bin,none⟩) T).trans y;by_cases f:k<h
 .obtain⟨b1,o1,rfl,X,y0⟩:=(ints.below g) k f;obtain⟨b2,o2,rfl,Y,x0⟩:=(sizes.below g) k f;have Q:=yh a.out k M;have m2:=Eg (a.out k f).1 (a.out k f).2;have H:Hid (ff q zs (k+1)=ff q zs k+q k*zs k):=rfl;have m3:(0:Int)<=(bin:Int):=by omega
  generalize ff q zs k=U at Q H ⊢
  go_wp2_with fail
  go_quiet (fail)
  go_wp2_with fail;go_roundw
  case rel=>exact⟨k+1,by omega,by go_num,by rw[H.out],below_drewN A _⟩
  case measure=>simp[intOf];omega
 go_wp2_with fail;go_ret;have F:k=h:=by omega
 subst F;exact⟨by rw[L.out];rfl,g⟩
theorem Yc(p:Pl)(s:Sh)(good:Nat)(w:World)(hs:s.At w)(Q:vz p s)(m:good<p.ns):
  Calls prog 112 #[s.val,.int .i64 good] w λe L=>e = .returned (.int .i64 (cv (λi=>(s.r i).z good) s.n))/\Below w.heap.size w L:=by
 obtain⟨pl,A,g,c⟩:=Q;have h:Hid (∀j,j<s.n->0<=(s.r j).z good/\(s.r j).z good<=200):=λj t=>c j t good m;have B:Hid (∀j,j<s.n->good<(s.r j).n):=λj t=>by rw[g j t];exact m
 have F:=pl.nb6;rw[<-A] at F;clear A g c pl m;obtain⟨s0,l,V,a⟩:=s;obtain⟨D,d,rows⟩:=hs;dsimp only at h B D d rows F;unfold maxLen at d;simp only[Sh.val];go_enter func112,ntmps112;go_wp2_with fail
 go_loopw [5,6] (λu i J=>∃k:Nat,k<=l/\i = .int .i64 k/\u = .int .i64 (cv (λi=>(a i).z good) k)/\Below w.heap.size w J) (λ_ i _=>l-(intOf i).toNat)
 case atStart=>exact⟨0,Qxz _,rfl,rfl,Below.refl _ _⟩
 obtain⟨k,M,rfl,rfl,v⟩:=hrel;by_cases f:k<l;rotate_left
 .go_wp2_with fail;go_ret;have y:k=l:=by omega
  subst y;exact⟨rfl,v⟩
 obtain⟨b,o,rfl,hb,P,H⟩:=(rows.below v) k f;obtain⟨T,q,ints⟩:=H;have E:=B.out k f;obtain⟨b1,Y,x,S,X⟩:=ints good E;rw[x] at P;clear x;have K:=El (z:=λi=>(a i).z good) h.out k M;have m2:=h.out k f;have G:Hid (cv (λi=>(a i).z good) (k+1)=cv (λi=>(a i).z good) k+(a k).z good):=rfl;have W:(0:Int)<=(good:Int):=by omega
 generalize cv (λi=>(a i).z good) k=U at K G ⊢
 unfold maxLen at q;go_wp2_with fail;go_roundw
 case rel=>exact⟨k+1,by omega,by go_num,by rw[G.out],v⟩
 case measure=>simp[intOf];omega
theorem aas(p:Pl)(s:Sh)(bin:Int)(w:World)(F:p.At w)(hs:s.At w):
  Calls prog 135 #[p.val,s.val,.int .i64 bin] w λe w'=>e = .returned (.tuple #[.int .i64 (H9 p s bin),.int .i64 (vw p s bin)])/\Below w.heap.size w w':=by
 have g:Below w.heap.size w (w.alloc (.cells #[.slice p.ab p.nb p.cb,.slice p.sa p.ns p.cs] 25)):=(Below.refl w.heap.size w).alloc nlr _;simp only[Pl.val,Sh.val];have T:=hs.le;have h:=hs.cap;have G:=h;unfold maxLen at G;have D:s.n<=maxLen:=Qzx T h;go_enter func135,ntmps135;go_wp2_with fail;refine(ze p s _ (F.below g) (hs.below g)).mono ?_;rintro e B ⟨rfl,a⟩;have c:=g.trans (a.mono (by simp));have ak:w.heap.size<B.heap.size:=by have:=a.size;simp at this;omega
 have c1:B.cell? ⟨w.heap.size,1,none⟩=some (.slice p.sa p.ns p.cs):=(a.cell (p:=⟨w.heap.size,1,none⟩) (by simp)).trans (by simp);by_cases t:fa p s=0;rotate_left
 .go_wp2_with fail
  go_ret2
  exact⟨by simp[H9,vw,t],c⟩
 cases q:inB bin 0 ((s.n:Int)-1)
 .go_wp2_with(go_at_call 71;refine ah (dm _ _ _ D) ?_)
  go_ret2
  exact⟨by simp[H9,vw,t,q],c⟩
 have H0:=hid t;have H1:=hid q;obtain⟨m,rfl⟩:=Qzz (au q).1;have H:m<s.n:=by have:=(au q).2;omega
 have L:Hid (H9 p s (m:Int)=ff (s.r m).z p.zs p.ns/\vw p s (m:Int)=0):=by
  show _/\_;simp[H9,vw,t,q]
 obtain⟨pl,hn,x,v⟩:=(wh t).2;have J:=x m H;have d:Hid (∀j,j<p.ns->(0<=(s.r m).z j/\(s.r m).z j<=200)/\1<=p.zs j/\p.zs j<=9):=λj M=>⟨v m H j M,pl.sizes j M⟩;have aj:=pl.ns3;have K:=F.below c;have Q:=hs.below c;clear F hs a g x v pl hn;obtain⟨ab,nb,cb,zb,sa,ns,cs,zs⟩:=p;obtain⟨_,_,_,les,caps,sizes⟩:=K;obtain⟨s0,sn,sc,X⟩:=s;obtain⟨_,_,rows⟩:=Q;dsimp only at *;obtain⟨b,o,rfl,hb,W,P⟩:=rows m H;obtain⟨E,f,ints⟩:=P
 generalize hR:X m=R at W E f ints J d
 obtain⟨ra,A,rc,y⟩:=R;dsimp only at W E f ints J d;subst J;have Y:=hid hR;clear hR rows;unfold maxLen at f caps;have m3:(0:Int)<=(m:Int):=by omega
 go_wp2_with(go_at_call 71;refine ah (dm _ _ _ D) ?_);clear t q
 go_loopw [9,28] (λu i wk=>∃k:Nat,k<=A/\i = .int .i64 k/\u = .int .i64 (ff y zs k)/\Below B.heap.size B wk) (λ_ i _=>A-(intOf i).toNat)
 case atStart=>exact⟨0,Qxz _,rfl,rfl,Below.refl _ _⟩
 obtain⟨k,hk,rfl,rfl,a⟩:=hrel;obtain⟨hc,hf⟩:=ab0 a;by_cases l:k<A
 .obtain⟨b1,o1,rfl,ag,y0⟩:=(ints.below a) k l;obtain⟨b2,o2,rfl,ai,x0⟩:=(sizes.below a) k l;have m1:=yh d.out k hk;have m2:=Eg (d.out k l).1 (d.out k l).2;have V:Hid (ff y zs (k+1)=ff y zs k+y k*zs k):=rfl
  generalize ff y zs k=U at m1 V ⊢
  go_wp2_with fail;go_roundw
  case rel=>exact⟨k+1,by omega,by go_num,by rw[V.out],a⟩
  case measure=>simp[intOf];omega
 go_wp2_with fail
 go_ret2
 have S:k=A:=by omega
 subst S;exact⟨by rw[L.out.1,L.out.2,Y.out];rfl,c.trans (a.mono c.size)⟩
theorem ace(p:Pl)(s:Sh)(good:Int)(w:World)(v:p.At w)(hs:s.At w):
  Calls prog 81 #[p.val,s.val,.int .i64 good] w λe W=>e = .returned (.tuple #[.int .i64 (Mk p s good),.int .i64 (H6 p s good)])/\Below w.heap.size w W:=by
 have d:Below w.heap.size w (w.alloc (.cells #[.slice p.ab p.nb p.cb,.slice p.sa p.ns p.cs] 25)):=(Below.refl w.heap.size w).alloc nlr _;simp only[Pl.val,Sh.val];have ae:=hs.le;have E:=hs.cap;unfold maxLen at E;have les:=v.les;have x:=v.caps;have A:p.ns<=maxLen:=Qzx les x;go_enter func81,ntmps81;go_wp2_with fail;refine(ze p s _ (v.below d) (hs.below d)).mono ?_;rintro e D ⟨rfl,c⟩;have a:=d.trans (c.mono (by simp));have c1:D.cell? ⟨w.heap.size,1,none⟩=some (.slice p.sa p.ns p.cs):=(c.cell (p:=⟨w.heap.size,1,none⟩) (by simp)).trans (by simp);by_cases t:fa p s=0;rotate_left
 .go_wp2_with fail
  go_ret2
  exact⟨by simp[Mk,H6,t],a⟩
 cases h:inB good 0 ((p.ns:Int)-1)
 .go_wp2_with(go_at_call 71;refine ah (dm _ _ _ A) ?_)
  go_ret2
  exact⟨by simp[Mk,H6,t,h],a⟩
 obtain⟨m,rfl⟩:=Qzz (au h).1;have L:m<p.ns:=by have:=(au h).2;omega
 have K:Hid (Mk p s (m:Int)=cv (λi=>(s.r i).z m) s.n/\H6 p s (m:Int)=0):=by
  show _/\_;simp[Mk,H6,t,h]
 obtain⟨pl,M,q,g⟩:=(wh t).2;have X:Hid (∀j,j<s.n->m<(s.r j).n):=λj G=>by rw[q j G];exact L
 have B:Hid (∀j,j<s.n->0<=(s.r j).z m/\(s.r j).z m<=200):=λj G=>g j G m L;have Y:=pl.nb6;rw[<-M] at Y;have rows:=(hs.below a).rows;clear v hs c d q g pl M;have m3:(0:Int)<=(m:Int):=by omega
 go_wp2_with(go_at_call 71;refine ah (dm _ _ _ A) ?_);clear t h c1;obtain⟨s0,y,sc,f⟩:=s;dsimp only at *
 go_loopw [9,26] (λu i T=>∃k:Nat,k<=y/\i = .int .i64 k/\u = .int .i64 (cv (λi=>(f i).z m) k)/\Below D.heap.size D T) (λ_ i _=>y-(intOf i).toNat)
 case atStart=>exact⟨0,Qxz _,rfl,rfl,Below.refl _ _⟩
 obtain⟨k,hk,rfl,rfl,c⟩:=hrel;by_cases l:k<y
 .obtain⟨b,o,rfl,hb,z0,S⟩:=(rows.below c) k l;obtain⟨af,F,ints⟩:=S;have P:=X.out k l;obtain⟨b1,o1,H,ad,y0⟩:=ints m P;rw[H] at z0;clear H;have V:=El (z:=λi=>(f i).z m) B.out k hk;have m2:=B.out k l;have Q:Hid (cv (λi=>(f i).z m) (k+1)=cv (λi=>(f i).z m) k+(f k).z m):=rfl
  generalize cv (λi=>(f i).z m) k=U at V Q ⊢
  unfold maxLen at F;go_wp2_with fail;go_roundw
  case rel=>exact⟨k+1,by omega,by go_num,by rw[Q.out],c⟩
  case measure=>simp[intOf];omega
 go_wp2_with fail
 go_ret2
 have J:k=y:=by omega
 subst J;exact⟨by rw[K.out.1,K.out.2];rfl,a.trans (c.mono a.size)⟩
def Blk(w:World)(g:Nat)(e:TypeId)(n:Nat)(f:Nat->Value):Prop :=
 ∃cur,w.heap[g]?=some (.cells cur e (0,0))/\n<=cur.size/\∀j,j<n->cur[j]?=some (f j)
theorem Blk.lt(h:Blk w g e n f):g<w.heap.size:=by
 obtain⟨cur,hc,_⟩:=h;exact(Qkq hc).1
theorem Blk.cell(h:Blk w g e n f)(a:j<n):w.cell? ⟨g,j,none⟩=some (f j):=by
 obtain⟨cur,hc,_,b⟩:=h;simp[World.cell?,hc,b j a]
theorem Blk.frozen(h:Blk w g e n f)(j:Nat):w.frozen? ⟨g,j,none⟩=false:=by
 obtain⟨cur,hc,_,a⟩:=h;simp[World.frozen?,hc]
theorem Blk.same(h:Blk w g e n f)(hs:a.heap[g]?=w.heap[g]?):Blk a g e n f:=by
 obtain⟨cur,hc,b⟩:=h;exact⟨cur,hs.trans hc,b⟩
theorem Blk.below(h:Blk w g e n f)(b:Below w.heap.size w a):Blk a g e n f:=h.same (b.block g h.lt)
theorem Blk.grown{row:Option Nat}(h:Blk w g e n f)(c:w.grownBy a row)(b:some g≠row):Blk a g e n f:=h.same (c.block g h.lt b)
theorem Blk.congr(h:Blk w g e n f)(b:∀j,j<n->f j=f' j):Blk w g e n f':=by
 obtain⟨cur,hc,d,c⟩:=h;exact⟨cur,hc,d,λj a=>by rw[c j a,b j a]⟩
theorem Blk.other(h:Blk w g e n f){a:Addr}(b:g≠a.block)(v:Value):Blk (w.setCell a v) g e n f:=h.same (Below.heap_setCell w a v g b)
theorem Blk.set(h:Blk w g e n f)(j:Nat)(v:Value):Blk (w.setCell ⟨g,j,none⟩ v) g e n (λi=>if i=j then v else f i):=by
 obtain⟨cur,hc,c,b⟩:=h;refine⟨cur.setIfInBounds j v,?_,by simpa using c,?_⟩
 .simp[World.setCell,Array.getElem?_modify,hc]
 intro i hi;rw[Array.getElem?_setIfInBounds];by_cases a:i=j
 .subst a;simp;omega
 rw[if_neg (λe=>a e.symm),b i hi];simp[a]
theorem Blk.new(w:World)(cur:Array Value)(e:TypeId):Blk (w.alloc (.cells cur e)) w.heap.size e cur.size (λj=>cur.getD j default):=by
 refine⟨cur,heap_alloc_new w _,Nat.le_refl _,λj a => ?_⟩;simp[Array.getD,a]
theorem Blk.ofOwns{base:Nat}{size:Nat}(h:w.ownsRow base e size v n xs)(m:v ≠ .slice none 0 0):
  ∃g c,v = .slice (some ⟨g,0,none⟩) n c/\n<=c/\c<=maxLen/\base<=g/\Blk w g e (n*size) (λj=>xs.getD j default):=by
 obtain⟨o,h|⟨g,cap,cur,rfl,l,f,a,d,i,k⟩⟩:=h
 .exact absurd h.1 m
 refine⟨g,cap,rfl,a,d,l,cur,f,by rw[i];exact Nat.mul_le_mul_right _ a,λj b => ?_⟩;have:xs[j]?=cur[j]?:=by
  rw[<-k,List.getElem?_take,if_pos b];simp
 rw[<-this,List.getElem?_eq_getElem (by omega)];simp[List.getD,List.getElem?_eq_getElem (show j<xs.length by omega)]
theorem Blk.mk'{cur:Array Value}(a:g=w.heap.size)(b:f=λj=>cur.getD j default):Blk (w.alloc (.cells cur e)) g e cur.size f:=by
 subst a b;exact Blk.new w cur e
theorem Blk.alloc(h:Blk w g e n f)(o:Obj):Blk (w.alloc o) g e n f:=h.below (brf.alloc nlr o)
theorem Blk.ints{z:Nat->Int}(h:Blk w g e n (λj => .int .i64 (z j))):xp w (some ⟨g,0,none⟩) n z:=λi hi =>
 ⟨g,0,rfl,h.lt,by rw[Nat.zero_add];exact h.cell hi⟩
theorem Blk.k(h:Blk w g e n f)(j:Nat)(a:j<n:=by decide):w.cell? ⟨g,j,none⟩=some (f j):=h.cell a
theorem z7(h:Blk w g e 7 f):g<w.heap.size/\w.frozen? ⟨g,0,none⟩=false/\w.cell? ⟨g,0,none⟩=some (f 0)/\w.frozen? ⟨g,1,none⟩=false/\w.cell? ⟨g,1,none⟩=some (f 1)/\w.frozen? ⟨g,2,none⟩=false/\w.cell? ⟨g,2,none⟩=some (f 2)/\w.frozen? ⟨g,3,none⟩=false/\w.cell? ⟨g,3,none⟩=some (f 3)/\w.frozen? ⟨g,4,none⟩=false/\w.cell? ⟨g,4,none⟩=some (f 4)/\w.frozen? ⟨g,5,none⟩=false/\w.cell? ⟨g,5,none⟩=some (f 5)/\w.frozen? ⟨g,6,none⟩=false/\w.cell? ⟨g,6,none⟩=some (f 6):=⟨h.lt,h.frozen 0,h.cell (j:=0) (by decide),h.frozen 1,h.cell (j:=1) (by decide),h.frozen 2,h.cell (j:=2) (by decide),h.frozen 3,h.cell (j:=3) (by decide),h.frozen 4,h.cell (j:=4) (by decide),h.frozen 5,h.cell (j:=5) (by decide),h.frozen 6,h.cell (j:=6) (by decide)⟩
structure Hd where
 o:Int
 l:Int
 b:Int
 n:Int
variable{z O:Nat->Hd}{h Z:Hd}{E:Hd->Bool}
def Hd.val(x:Hd):Value := .agg #[.int .i64 x.o,.int .i64 x.l,.int .i64 x.b,.int .i64 x.n]
def dc(x:Hd):List Value:=[.int .i64 x.o,.int .i64 x.l,.int .i64 x.b,.int .i64 x.n]
def ie(x:Hd):Bool:=inB x.o 0 3&&inB x.l 0 2&&inB x.b 0 5&&inB x.n 1 200
def ba(x:Hd):Int:=(x.o*3+x.l)*6+x.b
def D6(a b:Int):Int:=if a<b then -1 else if b<a then 1 else 0
def orI(a b c:Int):Int:=if a=0 then(if b=0 then c else b) else a
def mu(x y:Hd):Int:=orI (D6 x.o y.o) (D6 x.l y.l) (D6 x.b y.b)
theorem cz{x:Hd}(h:ie x=true):(0<=x.o/\x.o<=3)/\(0<=x.l/\x.l<=2)/\(0<=x.b/\x.b<=5)/\1<=x.n/\x.n<=200:=by
 simp only[ie,Xxx] at h;exact⟨au h.1.1.1,au h.1.1.2,au h.1.2,au h.2⟩
theorem Bn{x y:Hd}(hx:ie x=true)(c:ie y=true):(0<=mu x y↔ba y<=ba x)/\(mu x y=0↔ba x=ba y):=by
 have a:=cz hx;have b:=cz c;unfold mu orI D6 ba;constructor
 all_goals(repeat' split)<;>omega
theorem R8{x y:Hd}:mu x y=0↔x.o=y.o/\x.l=y.l/\x.b=y.b:=by
 unfold mu orI D6
 (repeat' split)<;>omega
theorem O1{x y:Hd}:mu x y<0↔x.o<y.o\/(x.o=y.o/\(x.l<y.l\/(x.l=y.l/\x.b<y.b))):=by
 unfold mu orI D6
 (repeat' split)<;>omega
theorem Pw{x y z:Hd}(b:mu x y<0)(a:mu y z<0):mu x z<0:=by
 rw[O1] at *;omega
def db(z:Nat->Hd)(i:Nat):Bool := !ie (z i)||(decide (0<i)&&decide (0<=mu (z (i-1)) (z i)))
def zk(z:Nat->Hd)(i:Nat):Bool := !ie (z i)||(decide (0<i)&&decide (ba (z i)<=ba (z (i-1))))
theorem R1(z:Nat->Hd):∀n,ax n (zk z)=ax n (db z)
 | 0=>rfl
 | n+1=>by
  rw[Ev,Ev,R1 z n];cases h:ax n (db z);rotate_left
  .simp
  simp only[Bool.false_or];unfold zk db;cases e:ie (z n)
  .simp
  by_cases b:0<n
  .have d:=dk h (n-1) (by omega);have a:ie (z (n-1))=true:=by
    cases c:ie (z (n-1))
    .simp[db,c] at d
    rfl
   have:=(Bn a e).1;simp only[b,decide_true,Bool.true_and,Bool.not_true,Bool.false_or];rw[Bool.eq_iff_iff];simp only[decide_eq_true_eq];exact this.symm
  simp[b]
def gz(n:Nat)(z:Nat->Hd):Int:=if ax n (db z) then 1 else 0
theorem cd(h:ax n (db z)=false):∀i,i<n->ie (z i)=true:=by
 intro i hi;have:=dk h i hi;cases a:ie (z i)
 .simp[db,a] at this
 rfl
theorem Be(h:ax n (db z)=false):∀i,i+1<n->ba (z i)<ba (z (i+1)):=by
 intro i hi;have b:=dk h (i+1) hi;have c:=cd h i (by omega);have a:=cd h (i+1) hi;have:=(Bn c a).1;simp only[db,a,Bool.not_true,Bool.false_or,Nat.succ_pos,decide_true,Bool.true_and,Nat.add_sub_cancel,decide_eq_false_iff_not] at b;rw[this] at b;omega
theorem nk(h:ax n (db z)=false):∀i j,i<j->j<n->ba (z i)<ba (z j):=by
 intro i j c b
 induction j with
 | zero=>omega
 | succ j ih =>
  have s:=Be h j b;by_cases a:i=j
  .subst a;exact s
  have:=ih (by omega) (by omega);omega
theorem Z3(h:ax n (db z)=false):∀i,i<n->(i:Int)<=ba (z i)/\ba (z i)<=71:=by
 intro i hi;have f:=cz (cd h i hi);constructor
 .induction i with
  | zero=>unfold ba;omega
  | succ i ih =>
   have:=Be h i hi;have:=ih (by omega) (cz (cd h i (by omega)));omega
 unfold ba;omega
theorem yf(h:ax n (db z)=false):n<=72:=by
 by_cases a:n=0
 .omega
 have:=Z3 h (n-1) (by omega);omega
def jj(w:World)(a:Option Addr)(n:Nat)(z:Nat->Hd):Prop :=
 ∀i,i<n->∃b o,a=some ⟨b,o,none⟩/\b<w.heap.size/\w.cell? ⟨b,o+i*4,none⟩=some (.int .i64 (z i).o) /\
  w.cell? ⟨b,o+i*4+1,none⟩=some (.int .i64 (z i).l)/\w.cell? ⟨b,o+i*4+2,none⟩=some (.int .i64 (z i).b) /\
  w.cell? ⟨b,o+i*4+3,none⟩=some (.int .i64 (z i).n)
theorem jj.below{e:World}{a:Option Addr}(h:jj w a n z)(d:Below w.heap.size w e):jj e a n z:=by
 intro i hi;obtain⟨b,o,j,c,f,l,k,g⟩:=h i hi;exact⟨b,o,j,Xzx c d.size,(d.cell (p:=⟨b,o+i*4,none⟩) c).trans f,(d.cell (p:=⟨b,o+i*4+1,none⟩) c).trans l,
  (d.cell (p:=⟨b,o+i*4+2,none⟩) c).trans k,(d.cell (p:=⟨b,o+i*4+3,none⟩) c).trans g⟩
structure Hs where
 a:Option Addr
 n:Nat
 c:Nat
 z:Nat->Hd
variable{U V:Hs}
def Hs.val(s:Hs):Value := .slice s.a s.n s.c
structure Hs.At(w:World)(s:Hs):Prop where
 le:s.n<=s.c
 cap:s.c<=maxLen
 hds:jj w s.a s.n s.z
 nilc:s.a=none->s.c=0
theorem Hs.At.below{s:Hs}(h:s.At w)(b:Below w.heap.size w a):s.At a:=⟨h.le,h.cap,h.hds.below b,h.nilc⟩
def Pb(ops:Array Oper):List (Bool × Nat)->Array Bool->Bool
 | [],listed=>Region.ready .any ops listed==[]
 | (h,i) :: r,listed=>(if h then(Region.ready .any ops listed).contains i&&Region.free .any ops listed i else Region.ready .any ops listed==[i])&&Pb ops r (listed.setIfInBounds i true)
theorem Oper.wp_then{o:Oper}{a:Act}{N:Act->World->Prop}(h:o.wp P a w K (Exit.then N Q)):o.wp P a w K Q:=by
 unfold Oper.wp at *
 generalize (execOp a.eval o).run P w=r at *
 cases r with
 | ok n w' =>
  cases n<;>simp only[Oper.upon] at h ⊢ <;>
   first
    | exact h
    | exact Calls.mono h (λe c b=>by cases e<;>exact b)
    | exact Rows.mono h (λ_ _ b=>b)
 | halt x w'=>cases x<;>simp only[Oper.upon] at h ⊢<;>exact h
def C0(P:Program)(ops:Array Oper)(Q:Exit->Act->World->Prop)(S:World->Prop):List (Bool × Nat)->Act->World->Prop
 | [],a,w=>Q .normal a w
 | (false,i) :: r,a,w=>wpOp P ops Q i (λa' w'=>S w'/\C0 P ops Q S r a' w') a w
 | (true,i) :: r,a,w=>∃o v,ops[i]?=some o/\YieldsIf P ops S o v a/\C0 P ops Q S r (a.put o.dst v) w
theorem C5{P:Program}{d:Array Oper}{Q:Exit->Act->World->Prop}{S:World->Prop}(hs:Region.noSelect d=true)
  (k:∀c a g w,Q (.panic c) a w->Q (.panic c) g w):∀(e:List (Bool × Nat)) (b:Array Bool) (a:Act) (w:World),
   Pb d e b=true->S w->C0 P d Q S e a w->wpAnyH P .any d Q S e.length b a w
 | [],b,a,w,hB,_,h=>wpAnyH_done (by simpa[Pb] using hB) h _
 | (false,i) :: r,b,a,w,hB,hS,h=>by
  simp only[Pb,Bool.false_eq_true,if_false,Xxx,beq_iff_eq] at hB;refine wpAnyH_all hB.1 (by simp) λj l => ?_;rw[List.mem_singleton] at l;subst l;exact wpOp_mono (λg n f=>⟨f.1,C5 hs k r _ g n hB.2 f.1 f.2⟩) h
 | (true,i) :: r,b,a,w,hB,hS,h=>by
  simp only[Pb,if_true,Xxx] at hB;obtain⟨o,v,q,p,s⟩:=h;exact wpAnyH_take q hs hB.1.2 hB.1.1 (λc a w m=>k _ _ _ _ m) p hS (C5 hs k r _ _ w hB.2 hS s)
theorem o8{b:Array Oper}{a:Act}(S:World->Prop)(d:List (Bool × Nat))
  (g:P.follows .mixedOrders=true) (hs:Region.noSelect b=true) (f:Pb b d (Array.replicate b.size false)=true) (e:d.length=b.size)
  (i:S w.drew) (h:C0 P b (NoPanic Q) S d a w.drew):(Code.region n b true).wp P Q a w:=by
 refine wp_region_noPanic (wp_region_held (S:=S) g ?_);have:=C5 (Q:=NoPanic Q) hs (λc a j w h=>(h:False).elim) d (Array.replicate b.size false) a w.drew f i h;rw[e] at this;exact this
theorem da{l:List Oper}{r:List (Bool × Nat)}(k:Nat){a:Act}(f:k<l.length)
  (h:wpList P l.toArray (Exit.then (λe d=>S d/\C0 P l.toArray Q S r e d) Q) ((l.drop k).take 1) a w):C0 P l.toArray Q S ((false,k) :: r) a w:=by
 have i:l.toArray[k]?=some l[k]:=by simp[f]
 have c:(l.drop k).take 1=[l[k]]:=by
  rw[List.drop_eq_getElem_cons f]
  rfl
 rw[c] at h;show wpOp P l.toArray Q k _ a w;unfold wpOp;simp only[i];unfold wpList at h
 split
 .rename_i b;rw[if_pos b] at h;rcases h with h|⟨c,j⟩
  .exact .inl (Oper.wp_then (Oper.wp_mono (λe d g=>g) h))
  exact .inr ⟨c,j⟩
 rename_i b;rw[if_neg b] at h;exact h
def Ok(o:Oper):Bool:=match o.op with
 | .move _=>true
 | .assign _=>true
 | .slice ..=>true
 | .load ..=>true
 | .fieldAddr ..=>true
 | .indexAddr ..=>true
 | .binOp ..=>true
 | .nilCheck _=>true
 | _=>false
theorem aab{s:Sem Value}{b:World}{n:Next}(h:(do let x <-s;pure (Next.value x):Sem Next).run P w = .ok n b):∃v,n = .value v:=by
 simp only[Sem.run_bind,Sem.run_pure] at h;cases a:s.run P w with
 | ok u w2 =>
  rw[a] at h;simp only[Result.andThen] at h;cases h;exact⟨_,rfl⟩
 | halt y w2 =>
  rw[a] at h;simp only[Result.andThen] at h;cases h
theorem Lr{o:Oper}{ρ:Operand->Value}{f:World}{n:Next}(e:Ok o=true)(h:(execOp ρ o).run P w = .ok n f):∃v,n = .value v:=by
 unfold Ok at e;unfold execOp at h
 split at e
 .rename_i x hx;rw[hx] at h;simp only[] at h;cases h;exact⟨_,rfl⟩
 .rename_i x hx;rw[hx] at h;simp only[] at h;cases h;exact⟨_,rfl⟩
 all_goals first
  | (cases e;done)
  | (rename_i hx;rw[hx] at h;exact aab h)
  | skip
 rename_i x hx;rw[hx] at h;simp only[] at h
 split at h
 .cases h
 .cases h
 .cases h
 rotate_left
 .cases h;exact⟨_,rfl⟩
 rename_i c first d _
 split at h
 .cases h
 rotate_left
 .cases h;exact⟨_,rfl⟩
 rename_i t u _;simp only[Sem.run_bind] at h;cases g:(nilAhead (P.types.size+Made.depth) t u c).run P w with
 | ok b w2 =>
  change Result.andThen ((nilAhead (P.types.size+Made.depth) t u c).run P w) (λa f=>_)=_ at h;rw[g] at h;simp only[Result.andThen] at h
  split at h
  .cases h
  cases h;exact⟨_,rfl⟩
 | halt y w2 =>
  change Result.andThen ((nilAhead (P.types.size+Made.depth) t u c).run P w) (λa f=>_)=_ at h;rw[g] at h;cases h
theorem am{l:List Oper}{r:List (Bool × Nat)}(k:Nat){o:Oper}{a:Act}(e:l[k]?=some o)(f:Ok o=true)
  (h:wpQuiet P l.toArray S (λi=>C0 P l.toArray Q S r i w) [o] a):C0 P l.toArray Q S ((true,k) :: r) a w:=by
 unfold wpQuiet at h
 split at h
 .rename_i b;obtain⟨v,g,m⟩:=h;refine⟨o,v,by simpa using e,.inl ⟨b,λd j => ?_⟩,m⟩;have:=g d j;unfold Oper.quietAt at this;cases c:(execOp a.eval o).run P d with
  | ok n w2 =>
   rw[c] at this;obtain⟨u,rfl⟩:=Lr f c;simp only[Oper.quietUpon] at this;rw[this.1,this.2]
  | halt x w2=>rw[c] at this;exact this.elim
 rename_i b;refine⟨o,undef,by simpa using e,.inr ⟨by simpa using b,rfl⟩,h⟩
open Go.Sort
theorem acd(n k:Int)(w:World)(b:0<=n/\n<=1000):
  Calls prog 71 #[.int .i64 n,.int .i64 k] w λe a=>e = .returned (.bool (inB k 0 (n-1)))/\a=w:=by
 obtain⟨m,rfl⟩:=Qzz b.1;exact dm m k w (by unfold maxLen;omega)
theorem tc(x:Hd)(w:World):
  Calls prog 131 #[x.val] w λe a=>e = .returned (.bool (ie x))/\Below w.heap.size w a:=by
 unfold ie Hd.val;go_enter func131,ntmps131;go_wp2_with(first|(go_at_call 71;refine ah (acd _ _ _ (by omega)) ?_)|(go_at_call 63;refine ah (co _ _ _ _) ?_))
 all_goals go_ret
 all_goals exact⟨by simp[*],brf.alloc nlr _⟩
theorem A8(x:Hd)(w:World):
  Calls prog 153 #[x.val] w λe a=>e = .returned (.bool (ie x))/\Below w.heap.size w a:=by
 unfold ie Hd.val;go_enter func153,ntmps153;go_wp2_with(go_at_call 23;refine ah (cg _ _ _ _) ?_)
 all_goals go_ret
 all_goals exact⟨by simp[*],brf.alloc nlr _⟩
theorem Qp(x:Hd)(w:World)(h:ie x=true):
  Calls prog 154 #[x.val] w λe b=>e = .returned (.int .i64 (ba x))/\Below w.heap.size w b:=by
 have a:=cz h;unfold ba Hd.val;go_enter func154,ntmps154
 go_wp2
 go_ret;exact⟨rfl,brf.alloc nlr _⟩
theorem Fk(x y:Int)(w:World):
  Calls prog 159 #[.int .i64 x,.int .i64 y] w λe a=>e = .returned (.int .i64 (D6 x y))/\a=w:=by
 unfold D6;by_cases b:x<y
 .go_enter func159,ntmps159
  go_wp2
  go_ret;exact⟨by simp,rfl⟩
 by_cases c:y<x
 .go_enter func159,ntmps159
  go_wp2
  go_ret;exact⟨by simp,rfl⟩
 go_enter func159,ntmps159
 go_wp2
 go_ret;exact⟨by simp,rfl⟩
theorem ac5(g:Nat)(a b c:Int)(w:World)(h:Blk w g 3 3 (λj=>(#[.int .i64 a,.int .i64 b,.int .i64 c]:Array Value).getD j default)):
  Calls prog 158 #[.slice (some ⟨g,0,none⟩) 3 3] w λe t=>e = .returned (.int .i64 (orI a b c))/\t=w:=by
 have v:w.cell? ⟨g,0,none⟩=some (.int .i64 a):=h.k 0;have c1:w.cell? ⟨g,1,none⟩=some (.int .i64 b):=h.k 1;have c2:w.cell? ⟨g,2,none⟩=some (.int .i64 c):=h.k 2;clear h;unfold orI;go_enter func158,ntmps158
 go_wp2
 go_loop [8] (λi=>∃k:Nat,k<=3/\i = .int .i64 k/\(1<=k->a=0)/\(2<=k->b=0)/\(3<=k->c=0)) (λi=>3-(intOf i).toNat)
 case atStart=>exact⟨0,by omega,rfl,λh=>by omega,λh=>by omega,λh=>by omega⟩
 obtain⟨k,x,rfl,o,r,hc⟩:=hrel;have l:Hid _:=And.intro o (And.intro r hc);clear o r hc;have s:k=0\/k=1\/k=2\/k=3:=by omega
 rcases s with rfl|rfl|rfl|rfl
 .cases f:(a !=0)
  .have d:a=0:=by simpa using f
   have m:=hid d;clear d
   go_wp2
   go_round
   case rel=>exact⟨1,by omega,by go_num,λ_=>m.out,λh=>by omega,λh=>by omega⟩
   case measure=>simp[intOf]
  have d:¬a=0:=by simpa using f
  go_wp2
  go_ret;exact⟨by simp,rfl⟩
 .have p:=l.out.1 (by omega);have n:=hid p;clear p;cases f:(b !=0)
  .have d:b=0:=by simpa using f
   have m:=hid d;clear d
   go_wp2
   go_round
   case rel=>exact⟨2,by omega,by go_num,λ_=>n.out,λ_=>m.out,λh=>by omega⟩
   case measure=>simp[intOf]
  have d:¬b=0:=by simpa using f
  go_wp2
  go_ret;exact⟨by simp,rfl⟩
 .have n:Hid (a=0):=l.out.1 (by omega);have q:Hid (b=0):=l.out.2.1 (by omega);cases f:(c !=0)
  .have d:c=0:=by simpa using f
   have m:=hid d;clear d
   go_wp2
   go_round
   case rel=>exact⟨3,by omega,by go_num,λ_=>n.out,λ_=>q.out,λ_=>m.out⟩
   case measure=>simp[intOf]
  go_wp2
  go_ret;exact⟨by simp,rfl⟩
 have n:Hid (a=0):=l.out.1 (by omega);have q:Hid (b=0):=l.out.2.1 (by omega);have u:Hid (c=0):=l.out.2.2 (by omega)
 go_wp2
 go_ret;exact⟨by simp[u.out],rfl⟩
theorem um(x y:Hd)(w:World):
  Calls prog 132 #[x.val,y.val] w λe f=>e = .returned (.int .i64 (mu x y))/\Below w.heap.size w f:=by
 unfold mu Hd.val;have F:∃W,(w.alloc (.cells #[.int .i64 x.o,.int .i64 x.l,.int .i64 x.b,.int .i64 x.n] 61)).alloc (.cells #[.int .i64 y.o,.int .i64 y.l,.int .i64 y.b,.int .i64 y.n] 61)=W/\Below w.heap.size w W /\
   (W.cell? ⟨w.heap.size,0,none⟩=some (.int .i64 x.o)/\W.cell? ⟨w.heap.size,1,none⟩=some (.int .i64 x.l)/\W.cell? ⟨w.heap.size,2,none⟩=some (.int .i64 x.b)) /\
   (W.cell? ⟨w.heap.size+1,0,none⟩=some (.int .i64 y.o)/\W.cell? ⟨w.heap.size+1,1,none⟩=some (.int .i64 y.l)/\W.cell? ⟨w.heap.size+1,2,none⟩=some (.int .i64 y.b)):=by
  refine⟨_,rfl,(brf.alloc nlr _).alloc (by simp) _,?_,?_⟩
  .exact⟨by simp,by simp,by simp⟩
  exact⟨by simp,by simp,by simp⟩
 obtain⟨W,h,c,⟨s,q,v⟩,m,r,i⟩:=F;have g:Hid _:=h;clear h;go_enter func132,ntmps132;go_wp2_with fail;rw[g.out];clear g;have e0:=Qqq s;have H:=Qqq q;have z:=Qqq v;have D:=Qqq m;have G:=Qqq r;have E:=Qqq i;refine o8 (λf=>∃p:Regrown,f=grow (redrawn W p.d) p.os)
  ([0,1,2,3,5,6,7,8,10,11,12,13].map (λk=>(true,k))++[(false,4),(false,9),(false,14),(false,15),(false,16),(false,17)]) (by kernel_rfl) (by kernel_rfl) (by kernel_rfl) (by kernel_rfl) (Qqx (brf.drew)) ?_
 refine am 0 rfl rfl ?_
 go_big_quiet_step(fail)
 refine Qqz ?_;refine am 1 rfl rfl ?_
 go_big_quiet_step(fail)
 refine Qqz ?_;refine am 2 rfl rfl ?_
 go_big_quiet_step(fail)
 refine Qqz ?_;refine am 3 rfl rfl ?_
 go_big_quiet_step(fail)
 refine Qqz ?_;refine am 5 rfl rfl ?_
 go_big_quiet_step(fail)
 refine Qqz ?_;refine am 6 rfl rfl ?_
 go_big_quiet_step(fail)
 refine Qqz ?_;refine am 7 rfl rfl ?_
 go_big_quiet_step(fail)
 refine Qqz ?_;refine am 8 rfl rfl ?_
 go_big_quiet_step(fail)
 refine Qqz ?_;refine am 10 rfl rfl ?_
 go_big_quiet_step(fail)
 refine Qqz ?_;refine am 11 rfl rfl ?_
 go_big_quiet_step(fail)
 refine Qqz ?_;refine am 12 rfl rfl ?_
 go_big_quiet_step(fail)
 refine Qqz ?_;refine am 13 rfl rfl ?_
 go_big_quiet_step(fail)
 refine Qqz ?_;refine da 4 (by decide) ?_;simp only[Qyq,Xqq,Qyx,Qyz];go_wp2_with(go_at_call 159;refine ah (Fk _ _ _) ?_);refine⟨Qqx (brf.drew),?_⟩;refine da 9 (by decide) ?_;simp only[Qyq,Xqq,Qyx,Qyz];go_wp2_with(go_at_call 159;refine ah (Fk _ _ _) ?_);refine⟨Qqx (brf.drew),?_⟩;refine da 14 (by decide) ?_;simp only[Qyq,Xqq,Qyx,Qyz];go_wp2_with(go_at_call 159;refine ah (Fk _ _ _) ?_);refine⟨Qqx (brf.drew),?_⟩
 generalize hA:D6 x.o y.o=A
 generalize hBB:D6 x.l y.l=B
 generalize hC:D6 x.b y.b=C
 have j:=hid hA;have u:=hid hBB;have t:=hid hC;clear hA hBB hC;refine da 15 (by decide) ?_;simp only[Qyq,Xqq,Qyx,Qyz];go_wp2_with fail;have a:Below W.heap.size W (W.alloc (.cells #[.int .i64 A,.int .i64 B,.int .i64 C] 3)).drew:=(brf.alloc nlr _).drew;refine⟨Qqx a,?_⟩;refine da 16 (by decide) ?_;simp only[Qyq,Xqq,Qyx,Qyz];go_wp2_with fail;refine ah (ac5 W.heap.size A B C _ (Blk.below (Blk.mk' rfl rfl) (brf.drew))) ?_;go_wp2_with fail;refine⟨Qqx a,?_⟩;refine da 17 (by decide) ?_;simp only[Qyq,Xqq,Qyx,Qyz];go_wp2_with fail;refine⟨Qqx a,?_⟩;refine NoPanic.normal ?_;go_wp2_with fail;go_ret;exact⟨by rw[j.out,u.out,t.out];rfl,c.trans (a.mono c.size)⟩
theorem dt{x:Hd}(a:w.cell? ⟨b,q,none⟩=some (.int .i64 x.o))(f:w.cell? ⟨b,q+1,none⟩=some (.int .i64 x.l))(e:w.cell? ⟨b,q+2,none⟩=some (.int .i64 x.b))(c:w.cell? ⟨b,q+3,none⟩=some (.int .i64 x.n)):
  (∀d os,(grow (redrawn w d) os).cell? ⟨b,q,none⟩=some (.int .i64 x.o))/\(∀d os,(grow (redrawn w d) os).cell? ⟨b,q+1,none⟩=some (.int .i64 x.l)) /\
  (∀d os,(grow (redrawn w d) os).cell? ⟨b,q+2,none⟩=some (.int .i64 x.b))/\(∀d os,(grow (redrawn w d) os).cell? ⟨b,q+3,none⟩=some (.int .i64 x.n)):=
 ⟨λd os=>Qqq a d os,λd os=>Qqq f d os,λd os=>Qqq e d os,λd os=>Qqq c d os⟩
theorem Ns(B:Nat)(a:Option Addr)(n c:Nat)(z:Nat->Hd)(i:Nat)(w:World)(hi:i<n)(X:n<=c)(hc:c<=maxLen)(l:jj w a n z)(s:w.cell? ⟨B,0,none⟩=some (.slice a n c)):
  Calls prog 130 #[.int .i64 i,.pointer (some ⟨B,0,none⟩)] w λe F=>e = .returned (.bool (db z i))/\Below w.heap.size w F:=by
 obtain⟨b,o,rfl,hb,t,q,p,r⟩:=l i hi;obtain⟨H,E,J,G⟩:=dt t q p r;have P:=Qqq s;have Q:(0:Int)<=(i:Int):=by omega
 have m2:(i:Int)<(n:Int):=by omega
 unfold maxLen at hc;by_cases m:i=0
 .subst m;simp only[Nat.zero_mul,Nat.add_zero] at H E J G;clear t q p r l s;cases h:ie (z 0)
  .go_enter func130,ntmps130;go_wp2_with fail;refine Qxq (by kernel_rfl) (by kernel_rfl) ?_
   repeat(go_big_quiet_step((go_at_call 131;exact Xxz (tc (z 0) _))))
   refine Qqz ?_;intro _ f;obtain⟨⟨j,g⟩,d⟩:=f;subst d;go_wp2_with fail;go_ret;exact⟨by simp[db,h],Qxx _ _ _⟩
  go_enter func130,ntmps130;go_wp2_with fail;refine Qxq (by kernel_rfl) (by kernel_rfl) ?_
  repeat(go_big_quiet_step((go_at_call 131;exact Xxz (tc (z 0) _))))
  refine Qqz ?_;intro _ f;obtain⟨⟨j,g⟩,d⟩:=f;subst d;go_wp2_with fail;go_ret;exact⟨by simp[db,h],Qxx _ _ _⟩
 obtain⟨k,rfl⟩:∃k,i=k+1:=⟨i-1,by omega⟩;obtain⟨M,Y,v,K,x,y,u,A⟩:=l k (by omega);simp only[Qkx,Qkz,and_true] at v;obtain⟨rfl,rfl⟩:=v;obtain⟨L,W,p2,T⟩:=dt x y u A;have S:(0:Int)<=(k:Int):=by omega
 have V:(k:Int)<(n:Int):=by omega
 have U:(0:Int)<(k:Int)+1:=by omega
 clear t q p r x y u A l s m;cases h:ie (z (k+1))
 .go_enter func130,ntmps130;go_wp2_with fail;refine Qxq (by kernel_rfl) (by kernel_rfl) ?_
  repeat(go_big_quiet_step(first|(go_at_call 131;exact Xxz (tc (z (k+1)) _))|(go_at_call 132;exact Xxz (um (z k) (z (k+1)) _))))
  refine Qqz ?_;intro _ f;obtain⟨⟨j,g⟩,d⟩:=f;subst d;go_wp2_with fail;go_ret;exact⟨by simp[db,h],Qxx _ _ _⟩
 cases D:decide (0<=mu (z k) (z (k+1)))
 .go_enter func130,ntmps130;go_wp2_with fail;refine Qxq (by kernel_rfl) (by kernel_rfl) ?_
  repeat(go_big_quiet_step(first|(go_at_call 131;exact Xxz (tc (z (k+1)) _))|(go_at_call 132;exact Xxz (um (z k) (z (k+1)) _))))
  refine Qqz ?_;intro _ f;obtain⟨⟨j,g⟩,d⟩:=f;subst d;go_wp2_with fail;go_ret;exact⟨by simp only[db,Nat.add_sub_cancel,h,D];simp,Qxx _ _ _⟩
 go_enter func130,ntmps130;go_wp2_with fail;refine Qxq (by kernel_rfl) (by kernel_rfl) ?_
 repeat(go_big_quiet_step(first|(go_at_call 131;exact Xxz (tc (z (k+1)) _))|(go_at_call 132;exact Xxz (um (z k) (z (k+1)) _))))
 refine Qqz ?_;intro _ f;obtain⟨⟨j,g⟩,d⟩:=f;subst d;go_wp2_with fail;go_ret;exact⟨by simp only[db,Nat.add_sub_cancel,h,D];simp,Qxx _ _ _⟩
theorem vd(s:Hs)(w:World)(hs:s.At w):
  Calls prog 75 #[s.val] w λe A=>e = .returned (.int .i64 (gz s.n s.z))/\Below w.heap.size w A:=by
 obtain⟨a,n,c,z⟩:=s;obtain⟨v,hc,o⟩:=hs;dsimp only at v hc o ⊢;have u:=hc;unfold maxLen at hc;simp only[Hs.val];go_enter func75,ntmps75;go_wp2_with fail
 go_loopw [8] (λi x=>∃k:Nat,k<=n/\i = .int .i64 k/\(∀j,j<k->db z j=false)/\Below (w.heap.size+1) (w.alloc (.cells #[.slice a n c] 28)) x) (λi _=>n-(intOf i).toNat)
 case atStart=>exact⟨0,Qxz _,rfl,λj l=>absurd l (Qzq _),Below.refl _ _⟩
 obtain⟨k,D,rfl,g,d⟩:=hrel;have r:=hid g;clear g;have b:Below w.heap.size w wr:=((Below.refl w.heap.size w).alloc nlr _).trans (d.mono (by omega));have hs:w.heap.size+1<=wr.heap.size:=by have:=d.size;simpa using this
 have y:wr.cell? ⟨w.heap.size,0,none⟩=some (.slice a n c):=(d.cell (p:=⟨w.heap.size,0,none⟩) (by simp)).trans (by simp);by_cases h:k<n;rotate_left
 .go_wp2_with fail;go_ret;have m:ax n (db z)=false:=cu λj l=>r.out j (by omega);exact⟨by rw[show gz n z=0 from by simp[gz,m]];rfl,b⟩
 go_wp2_with fail;refine(Ns w.heap.size a n c z k wr h v u (o.below b) y).mono ?_;rintro e B ⟨rfl,f⟩;cases t:db z k
 .go_wp2_with fail;go_roundw
  case measure=>simp[intOf];omega
  refine⟨k+1,by omega,by go_num,?_,d.trans (f.mono hs)⟩;intro j l;by_cases q:j=k
  .rw[q,t]
  exact r.out j (by omega)
 have m:Hid (ax n (db z)=true):=dv h t;go_wp2_with fail;go_ret;exact⟨by rw[show gz n z=1 from by simp[gz,m.out]];rfl,b.trans (f.mono (by omega))⟩
theorem Oq(s:Hs)(w:World)(hs:s.At w):
  Calls prog 110 #[s.val] w λe w'=>e = .returned (.int .i64 (gz s.n s.z))/\Below w.heap.size w w':=by
 obtain⟨a,n,c,z⟩:=s;obtain⟨hn,hc,M⟩:=hs;dsimp only at hn hc M ⊢;have v:Hid (gz n z=if ax n (zk z) then 1 else 0):=by show gz n z=_;rw[R1];rfl
 unfold maxLen at hc;simp only[Hs.val]
 generalize gz n z=E at v ⊢
 go_enter func110,ntmps110;go_wp2_with fail
 go_loopw [3] (λi X=>∃k:Nat,k<=n/\i = .int .i64 k/\(∀j,j<k->zk z j=false)/\Below w.heap.size w X) (λi _=>n-(intOf i).toNat)
 case atStart=>exact⟨0,Qxz _,rfl,λj u=>absurd u (Qzq _),Below.refl _ _⟩
 obtain⟨k,hk,rfl,y,g⟩:=hrel;have D:=hid y;clear y;by_cases l:k<n;rotate_left
 .go_wp2_with fail;go_ret;have m:ax n (zk z)=false:=cu λj u=>D.out j (by omega);exact⟨by rw[v.out,m];rfl,g⟩
 have A:=M.below g;obtain⟨b,o,rfl,hb,V,L,G,Q⟩:=A k l;obtain⟨r0,Y,r2,r3⟩:=dt V L G Q;have m1:(0:Int)<=(k:Int):=by omega
 have m2:(k:Int)<(n:Int):=by omega
 cases t:ie (z k)
 .have m:Hid (ax n (zk z)=true):=dv l (by simp[zk,t]);go_wp2_with fail;refine Qxq (by kernel_rfl) (by kernel_rfl) ?_
  repeat(go_big_quiet_step((go_at_call 153;exact Xxz (A8 (z k) _))))
  refine Qqz ?_;intro _ f;obtain⟨⟨B,p⟩,d⟩:=f;subst d;go_wp2_with fail;go_ret;exact⟨by rw[v.out,m.out];rfl,g.trans ((Qxx _ _ _).mono g.size)⟩
 by_cases r:k=0
 .have J:Hid (zk z k=false):=by show zk z k=false;subst r;simp[zk,t]
  subst r;simp only[Nat.zero_mul,Nat.add_zero] at r0 Y r2 r3;go_wp2_with fail;refine Qxq (by kernel_rfl) (by kernel_rfl) ?_
  repeat(go_big_quiet_step((go_at_call 153;exact Xxz (A8 (z 0) _))))
  refine Qqz ?_;intro _ f;obtain⟨⟨B,p⟩,d⟩:=f;subst d;go_wp2_with fail;go_roundw
  case measure=>simp[intOf];omega
  refine⟨1,by omega,by go_num,?_,g.trans ((Qxx _ _ _).mono g.size)⟩;intro j u;have:j=0:=by omega
  rw[this,J.out]
 obtain⟨q,rfl⟩:∃q,k=q+1:=⟨k-1,by omega⟩;have W:ie (z q)=true:=by
  have:=D.out q (by omega);cases hq:ie (z q)
  .simp[zk,hq] at this
  rfl
 obtain⟨b',o',H,ag,K,P,F,T⟩:=A q (by omega);simp only[Qkx,Qkz,and_true] at H;obtain⟨rfl,rfl⟩:=H;obtain⟨p0,p1,p2,p3⟩:=dt K P F T;have m3:(0:Int)<=(q:Int):=by omega
 have m4:(q:Int)<(n:Int):=by omega
 have m5:(0:Int)<(q:Int)+1:=by omega
 have x:Hid _:=And.intro t W;have h:Hid (zk z (q+1)=decide (ba (z (q+1))<=ba (z q))):=by show zk z (q+1)=_;simp[zk,t]
 clear V L G Q K P F T r W;cases U:decide (ba (z (q+1))<=ba (z q));rotate_left
 .rw[U] at h;have m:Hid (ax n (zk z)=true):=dv l h.out;go_wp2_with fail;refine Qxq (by kernel_rfl) (by kernel_rfl) ?_
  repeat(go_big_quiet_step(first|(go_at_call 153;exact Xxz (A8 (z (q+1)) _))|(go_at_call 154;exact Xxz (Qp _ _ (by first|exact x.out.2|exact x.out.1)))))
  refine Qqz ?_;intro _ f;obtain⟨⟨B,p⟩,d⟩:=f;subst d;go_wp2_with fail;go_ret;exact⟨by rw[v.out,m.out];rfl,g.trans ((Qxx _ _ _).mono g.size)⟩
 rw[U] at h;go_wp2_with fail;refine Qxq (by kernel_rfl) (by kernel_rfl) ?_
 repeat(go_big_quiet_step(first|(go_at_call 153;exact Xxz (A8 (z (q+1)) _))|(go_at_call 154;exact Xxz (Qp _ _ (by first|exact x.out.2|exact x.out.1)))))
 refine Qqz ?_;intro _ f;obtain⟨⟨B,p⟩,d⟩:=f;subst d;go_wp2_with fail;go_roundw
 case measure=>simp[intOf];omega
 refine⟨q+1+1,by omega,by go_num,?_,g.trans ((Qxx _ _ _).mono g.size)⟩;intro j u;by_cases S:j=q+1
 .rw[S,h.out]
 exact D.out j (by omega)
theorem yg{s:Sh}(a:et p=0)(r:vz p s):fa p s=0:=by
 unfold fa;have d:ax s.n (λi=>pg p (s.r i))=false:=cu λi hi=>by
  have b:ax (s.r i).n (λj=>qr ((s.r i).z j))=false:=cu λj c=>by
   have:=r.num i hi j (by rw[<-r.len i hi];exact c);simp[qr,bw this]
  rw[pg,b,Bool.or_false];simp[r.len i hi]
 rw[d,Bool.or_false];simp[a,r.n]
theorem Cy{z z':Nat->Int}{m:Nat}{n:Int}:∀{k:Nat},m<k->(∀i,i<k->z' i=if i=m then z i+n else z i)->cv z' k=cv z k+n
 | k+1,hm,h=>by
  simp only[cv];by_cases a:m=k
  .subst a;rw[h m (by omega),if_pos rfl,ta (z:=z') (z':=z) λj b=>by rw[h j (by omega),if_neg (by omega)]];omega
  rw[Cy (k:=k) (by omega) λi hi=>h i (by omega),h k (by omega),if_neg (by omega)];omega
def bp(x:Hd)(o l b:Int):Bool:=(x.o==o)&&(x.l==l)&&(x.b==b)
def keptV(n:Nat)(z:Nat->Hd)(o l b:Int):Int:=match (List.range n).find? (λi=>bp (z i) o l b) with
 | some i=>(z i).n
 | none=>0
theorem kw{o l b:Int}(h:∀j,j<n->bp (z j) o l b=false):keptV n z o l b=0:=by
 unfold keptV;have:(List.range n).find? (λi=>bp (z i) o l b)=none:=by
  rw[List.find?_eq_none];intro x hx;simp[h x (List.mem_range.1 hx)]
 rw[this]
theorem m9{k:Nat}{o l b:Int}(d:k<n)(h:∀j,j<k->bp (z j) o l b=false)(c:bp (z k) o l b=true):keptV n z o l b=(z k).n:=by
 unfold keptV;have e:List.range n=List.range k++(k :: (List.range (n-k-1)).map (λi=>k+1+i)):=by
  have:=@List.range_add k (n-k);rw[show k+(n-k)=n by omega] at this;rw[this,show n-k=(n-k-1)+1 by omega,List.range_succ_eq_map];simp[Function.comp_def];intro i hi;omega
 have:(List.range n).find? (λi=>bp (z i) o l b)=some k:=by
  rw[e,List.find?_append];have a:(List.range k).find? (λi=>bp (z i) o l b)=none:=by
   rw[List.find?_eq_none];intro x hx;simp[h x (List.mem_range.1 hx)]
  rw[a,List.find?_cons];simp[c]
 rw[this]
theorem sx(n:Nat)(z:Nat->Hd)(o l b:Int):(∀j,j<n->bp (z j) o l b=false)\/∃k,k<n/\(∀j,j<k->bp (z j) o l b=false)/\bp (z k) o l b=true:=by
 induction n with
 | zero=>exact .inl λj a=>absurd a (Qzq _)
 | succ n ih =>
  rcases ih with h|⟨k,g,f,e⟩
  .cases c:bp (z n) o l b
   .refine .inl λj a => ?_;by_cases d:j=n
    .rw[d,c]
    exact h j (by omega)
   exact .inr ⟨n,by omega,h,c⟩
  exact .inr ⟨k,by omega,f,e⟩
theorem fk{x:Hd}{o l b:Int}(h:bp x o l b=true):x.o=o/\x.l=l/\x.b=b:=by
 simpa[bp,and_assoc] using h
theorem wu(x:Hd):bp x x.o x.l x.b=true:=by simp[bp]
theorem Hp{x y:Hd}{o l b:Int}(hx:bp x o l b=true)(d:bp y o l b=true):ba x=ba y:=by
 have a:=fk hx;have c:=fk d;simp[ba,a,c]
def keptS(z:Nat->Hd)(o l:Int):Nat->Int
 | 0=>0
 | n+1=>keptS z o l n+if (z n).o=o/\(z n).l=l then(z n).n else 0
theorem Hi(i:ax (n+1) (db z)=false)(o l b:Int):keptV (n+1) z o l b=keptV n z o l b+if bp (z n) o l b then(z n).n else 0:=by
 rcases sx n z o l b with h|⟨k,e,g,c⟩
 .cases a:bp (z n) o l b
  .rw[kw h,kw λj m=>by
    by_cases f:j=n
    .rw[f,a]
    exact h j (by omega)]
   simp
  rw[kw h,m9 (Nat.lt_succ_self n) h a];simp
 have d:bp (z n) o l b=false:=by
  cases a:bp (z n) o l b
  .rfl
  have:=Hp c a;have:=nk i k n e (Nat.lt_succ_self n);omega
 rw[m9 e g c,m9 (by omega) g c,d];simp
theorem Hz(a:ax (n+1) (db z)=false):ax n (db z)=false:=cu λj b=>dk a j (by omega)
theorem yu(z:Nat->Hd)(o l:Int):∀n,ax n (db z)=false->cv (λb=>keptV n z o l b) 6=keptS z o l n
 | 0,_=>by simp[cv,keptS,keptV]
 | n+1,hr=>by
  have f:=yu z o l n (Hz hr);have h:=cz (cd hr n (Nat.lt_succ_self n));by_cases a:(z n).o=o/\(z n).l=l
  .simp only[keptS,a,and_self,if_true];rw[<-f];refine Cy (m:=(z n).b.toNat) (by omega) λb g => ?_;rw[Hi hr];by_cases c:b=(z n).b.toNat
   .have:bp (z n) o l b=true:=by
     have e:(b:Int)=(z n).b:=by omega
     simp[bp,a,e]
    rw[this,if_pos rfl,if_pos c]
   have:bp (z n) o l b=false:=by
    cases d:bp (z n) o l b
    .rfl
    have:=fk d;omega
   simp[this,c]
  simp only[keptS,a,if_false,Int.add_zero];rw[<-f];refine ta λb g => ?_;rw[Hi hr];have:bp (z n) o l b=false:=by
   cases d:bp (z n) o l b
   .rfl
   have:=fk d;exact absurd ⟨this.1,this.2.1⟩ a
  simp[this]
theorem tm{z:Nat->Hd}(o l:Int):∀n,(∀j,j<n->1<=(z j).n/\(z j).n<=200)->0<=keptS z o l n/\keptS z o l n<=200*n
 | 0,_=>by simp[keptS]
 | n+1,h=>by
  have b:=tm (z:=z) o l n λj a=>h j (by omega);have:=h n (by omega);simp only[keptS]
  split<;>omega
theorem Ed(h:∀j,j<n->1<=(z j).n/\(z j).n<=200)(o l b:Int):0<=keptV n z o l b/\keptV n z o l b<=200:=by
 rcases sx n z o l b with c|⟨k,a,e,d⟩
 .rw[kw c];omega
 rw[m9 a e d];have:=h k a;omega
theorem Nt(s:Hs)(o l b:Int)(w:World)(hs:s.At w):
  Calls prog 118 #[s.val,.int .i64 o,.int .i64 l,.int .i64 b] w λe y=>e = .returned (.int .i64 (keptV s.n s.z o l b))/\y=w:=by
 obtain⟨a,n,c,z⟩:=s;obtain⟨B,hc,x⟩:=hs;dsimp only at B hc x ⊢;unfold maxLen at hc;simp only[Hs.val]
 generalize hV:keptV n z o l b=V
 have u:=hid hV;clear hV;go_enter func118,ntmps118;go_wp2_with fail
 go_loop [9] (λi=>∃k:Nat,k<=n/\i = .int .i64 k/\(∀j,j<k->bp (z j) o l b=false)) (λi=>n-(intOf i).toNat)
 case atStart=>exact⟨0,Qxz _,rfl,λj h=>absurd h (Qzq _)⟩
 obtain⟨k,F,rfl,p⟩:=hrel;have m:=hid p;clear p;by_cases q:k<n;rotate_left
 .have g:Hid (0=V):=(kw λj h=>m.out j (by omega)).symm.trans u.out;go_wp2_with fail;go_ret;exact⟨by rw[<-g.out];rfl,rfl⟩
 obtain⟨D,G,rfl,J,L,K,H,E⟩:=x k q;cases d:bp (z k) o l b;rotate_left
 .have g:Hid ((z k).n=V):=(m9 q m.out d).symm.trans u.out;unfold bp at d;simp only[Xxx] at d;obtain⟨⟨v,t⟩,A⟩:=d;go_wp2_with fail;go_ret;exact⟨by rw[<-g.out];rfl,rfl⟩
 have r:=hid d;unfold bp at d;cases v:((z k).o==o)
 .clear d;go_wp2_with fail
  go_round
  case rel=>exact⟨k+1,by omega,by go_num,λj h=>by
   by_cases f:j=k
   .rw[f,r.out]
   exact m.out j (by omega)⟩
  case measure=>simp[intOf];omega
 cases t:((z k).l==l)
 .clear d;go_wp2_with fail
  go_round
  case rel=>exact⟨k+1,by omega,by go_num,λj h=>by
   by_cases f:j=k
   .rw[f,r.out]
   exact m.out j (by omega)⟩
  case measure=>simp[intOf];omega
 have A:((z k).b==b)=false:=by simpa[v,t] using d
 clear d;go_wp2_with fail
 go_round
 case rel=>exact⟨k+1,by omega,by go_num,λj h=>by
  by_cases f:j=k
  .rw[f,r.out]
  exact m.out j (by omega)⟩
 case measure=>simp[intOf];omega
theorem Mx(s:Hs)(o l:Int)(w:World)(hs:s.At w)(g:ax s.n (db s.z)=false):
  Calls prog 114 #[s.val,.int .i64 o,.int .i64 l] w λe y=>e = .returned (.int .i64 (keptS s.z o l s.n))/\y=w:=by
 have a:Hid (∀b:Int,0<=keptV s.n s.z o l b/\keptV s.n s.z o l b<=200):=λb=>Ed (λj v=>(cz (cd g j v)).2.2.2) o l b;have m:=yu s.z o l s.n g;have r:=hid m;have B:Hid _:=hs;clear m g hs;have p:Hid (∀k:Nat,k<=6->0<=cv (λb=>keptV s.n s.z o l b) k/\cv (λb=>keptV s.n s.z o l b) k<=200*k):=λk f=>El (n:=6) (λj _=>a.out j) k f
 generalize keptS s.z o l s.n=E at r ⊢
 simp only[Hs.val];go_enter func114,ntmps114;go_wp2_with fail
 go_loopw [7,8] (λu i t=>∃k:Nat,k<=6/\i = .int .i64 k/\u = .int .i64 (cv (λb=>keptV s.n s.z o l b) k)/\t=w) (λ_ i _=>6-(intOf i).toNat)
 case atStart=>exact⟨0,by omega,rfl,rfl,rfl⟩
 obtain⟨k,f,rfl,rfl,h⟩:=hrel;have c:Hid (wr=w):=h;clear h;have x:=p.out k f;have A:=a.out k;have d:Hid (cv (λb=>keptV s.n s.z o l b) (k+1)=cv (λb=>keptV s.n s.z o l b) k+keptV s.n s.z o l k):=rfl;by_cases D:k<6
 .generalize cv (λb=>keptV s.n s.z o l b) k=U at x d ⊢
  go_wp2_with fail;refine ah (Nt s o l k wr (by rw[c.out];exact B.out)) ?_
  generalize keptV s.n s.z o l k=V at A d ⊢
  go_wp2_with fail;go_roundw
  case rel=>exact⟨k+1,by omega,by go_num,by rw[d.out],c.out⟩
  case measure=>simp[intOf];omega
 have q:k=6:=by omega
 subst q;rw[r.out];go_wp2_with fail;go_ret;exact⟨rfl,c.out⟩
theorem Rn(s:Hs)(o l:Int)(w:World)(hs:s.At w):
  Calls prog 84 #[s.val,.int .i64 o,.int .i64 l] w λe M=>e = .returned (.tuple #[.int .i64 (if gz s.n s.z=0 then keptS s.z o l s.n else 0),.int .i64 (gz s.n s.z)])/\Below w.heap.size w M:=by
 have F:Hid _:=hs;obtain⟨a,n,c,z⟩:=s;obtain⟨Q,hc,B⟩:=hs;dsimp only at Q hc B ⊢;unfold maxLen at hc;simp only[Hs.val];by_cases m:gz n z=0;rotate_left
 .rw[if_neg m];go_enter func84,ntmps84;go_wp2_with fail;refine(vd ⟨a,n,c,z⟩ w F.out).mono ?_;rintro e K ⟨rfl,g⟩;dsimp only;go_wp2_with fail
  go_ret2
  exact⟨rfl,g⟩
 have y:ax n (db z)=false:=by
  cases h:ax n (db z)
  .rfl
  simp[gz,h] at m
 have P:=yf y;have H:Hid (∀j,j<n->1<=(z j).n/\(z j).n<=200):=λj D=>(cz (cd y j D)).2.2.2;have E:Hid (∀k,k<=n->0<=keptS z o l k/\keptS z o l k<=200*k):=λk G=>tm o l k λj D=>H.out j (by omega);rw[if_pos m];have S:=hid m;clear y;go_enter func84,ntmps84;go_wp2_with fail;refine(vd ⟨a,n,c,z⟩ w F.out).mono ?_;rintro e K ⟨rfl,g⟩;dsimp only;go_wp2_with fail;clear m
 go_loopw [9,19] (λu i J=>∃k:Nat,k<=n/\i = .int .i64 k/\u = .int .i64 (keptS z o l k)/\Below w.heap.size w J) (λ_ i _=>n-(intOf i).toNat)
 case atStart=>exact⟨0,Qxz _,rfl,rfl,g⟩
 obtain⟨k,G,rfl,rfl,d⟩:=hrel;have L:=E.out k G;by_cases t:k<n;rotate_left
 .have A:k=n:=by omega
  subst A;go_wp2_with fail
  go_ret2
  exact⟨by rw[S.out];rfl,d⟩
 obtain⟨b,q,rfl,hb,Y,V,T,W⟩:=(B.below d) k t;have X:=H.out k t;have r:Hid (keptS z o l (k+1)=keptS z o l k+if (z k).o=o/\(z k).l=l then(z k).n else 0):=rfl
 generalize keptS z o l k=U at L r ⊢
 cases x:((z k).o==o)
 .have f:¬((z k).o=o/\(z k).l=l):=by simp at x;omega
  have p:Hid _:=f;clear f;go_wp2_with fail;go_roundw
  case rel=>exact⟨k+1,by omega,by go_num,by rw[r.out,if_neg p.out,Int.add_zero],d.alloc (by have:=d.size;omega) _⟩
  case measure=>simp[intOf];omega
 cases v:((z k).l==l)
 .have f:¬((z k).o=o/\(z k).l=l):=by simp at v;omega
  have p:Hid _:=f;clear f;go_wp2_with fail;go_roundw
  case rel=>exact⟨k+1,by omega,by go_num,by rw[r.out,if_neg p.out,Int.add_zero],d.alloc (by have:=d.size;omega) _⟩
  case measure=>simp[intOf];omega
 have f:((z k).o=o/\(z k).l=l):=by simp at x v;exact⟨x,v⟩
 have p:Hid _:=f;clear f;go_wp2_with fail;go_roundw
 case rel=>exact⟨k+1,by omega,by go_num,by rw[r.out,if_pos p.out],d.alloc (by have:=d.size;omega) _⟩
 case measure=>simp[intOf];omega
structure Rp(n:Nat)(z:Nat->Hd)(t:Hd)(i:Nat):Prop where
 le:i<=n
 lo:∀q,q<i->mu (z q) t<0
 hi:∀q,i<=q->q<n->0<=mu (z q) t
theorem Qv(h:ax n (db z)=false)(p q:Nat)(a:p<q)(b:q<n):mu (z p) (z q)<0:=by
 have d:=cd h p (by omega);have c:=cd h q b;have:=(Bn d c).1;have:=nk h p q a b;omega
theorem M4(s:Hs)(t:Hd)(w:World)(hs:s.At w)(W:ax s.n (db s.z)=false):
  Calls prog 146 #[s.val,t.val,.func (.func 132) #[] #[]] w λe w'=>∃i:Nat,e = .returned (.tuple #[.int .i64 i,.bool (decide (i<s.n)&&decide (mu (s.z i) t=0))])/\Rp s.n s.z t i/\Below w.heap.size w w':=by
 have Q:=yf W;have S:Hid (∀p q,p<q->q<s.n->mu (s.z p) (s.z q)<0):=λp q x g=>Qv W p q x g;clear W;obtain⟨a,n,c,z⟩:=s;obtain⟨hn,hc,V⟩:=hs;dsimp only at hn hc V Q S ⊢;unfold maxLen at hc;have X:Below w.heap.size w (w.alloc (.cells #[.int .i64 t.o,.int .i64 t.l,.int .i64 t.b,.int .i64 t.n] 61)):=brf.alloc nlr _;have hT:Hid (∀r,Below (w.heap.size+1) (w.alloc (.cells #[.int .i64 t.o,.int .i64 t.l,.int .i64 t.b,.int .i64 t.n] 61)) r->r.cell? ⟨w.heap.size,0,none⟩=some (.int .i64 t.o)/\r.cell? ⟨w.heap.size,0+1,none⟩=some (.int .i64 t.l)/\r.cell? ⟨w.heap.size,0+2,none⟩=some (.int .i64 t.b)/\r.cell? ⟨w.heap.size,0+3,none⟩=some (.int .i64 t.n)):=λr h =>
  ⟨(h.cell (p:=⟨w.heap.size,0,none⟩) (by simp)).trans (by simp),(h.cell (p:=⟨w.heap.size,1,none⟩) (by simp)).trans (by simp),(h.cell (p:=⟨w.heap.size,2,none⟩) (by simp)).trans (by simp),(h.cell (p:=⟨w.heap.size,3,none⟩) (by simp)).trans (by simp)⟩
 simp only[Hs.val,Hd.val];go_enter func146,ntmps146;go_wp2_with fail
 go_loopw [9,10] (λu v wk=>∃i j:Nat,i<=j/\j<=n/\u = .int .i64 i/\v = .int .i64 j/\(∀q,q<i->mu (z q) t<0)/\(∀q,j<=q->q<n->0<=mu (z q) t)/\Below (w.heap.size+1) (w.alloc (.cells #[.int .i64 t.o,.int .i64 t.l,.int .i64 t.b,.int .i64 t.n] 61)) wk) (λu v _=>(intOf v).toNat-(intOf u).toNat)
 case atStart=>exact⟨0,n,Qxz _,Nat.le_refl _,rfl,rfl,λq hq=>absurd hq (Qzq _),λq x g=>by omega,Below.refl _ _⟩
 obtain⟨i,j,a1,hj,rfl,rfl,L,P,A⟩:=hrel;have K:Hid _:=And.intro L P;clear L P;have k:Below w.heap.size w wr:=X.trans (A.mono (by omega));have M:w.heap.size+1<=wr.heap.size:=by have:=A.size;simpa using this
 obtain⟨t0,t1,t2,t3⟩:=hT.out wr A;obtain⟨p0,p1,p2,p3⟩:=dt t0 t1 t2 t3;simp only[Nat.zero_add] at p1 p2 p3;clear t0 t1 t2 t3;by_cases a2:i<j;rotate_left
 .have T:i=j:=by omega
  subst T;have HP:Hid (Rp n z t i):=⟨hj,K.out.1,K.out.2⟩;by_cases D:i<n;rotate_left
  .have hd:decide ((i:Int)<(n:Int))=false:=by simp;omega
   go_wp2_with fail;refine Qxq (by kernel_rfl) (by kernel_rfl) ?_
   repeat(go_big_quiet_step((go_at_call 132;exact Xxz (um (z i) t _))))
   refine Qqz ?_;intro _ f;obtain⟨⟨U,y⟩,d⟩:=f;subst d;go_wp2_with fail
   go_ret2
   refine⟨i,?_,HP.out,k.trans ((Qxx _ _ _).mono k.size)⟩;simp[D]
  obtain⟨b,o,rfl,hb,J,G,E,B⟩:=(V.below k) _ D;obtain⟨r0,r1,r2,r3⟩:=dt J G E B;clear J G E B;have m3:(0:Int)<=(i:Int):=by omega
  have m4:(i:Int)<(n:Int):=by omega
  have hd:decide ((i:Int)<(n:Int))=true:=by simp;omega
  go_wp2_with fail;refine Qxq (by kernel_rfl) (by kernel_rfl) ?_
  repeat(go_big_quiet_step((go_at_call 132;exact Xxz (um (z i) t _))))
  refine Qqz ?_;intro _ f;obtain⟨⟨U,y⟩,d⟩:=f;subst d;go_wp2_with fail
  go_ret2
  refine⟨i,?_,HP.out,k.trans ((Qxx _ _ _).mono k.size)⟩;simp[D]
  rfl
 obtain⟨m,hm⟩:∃m,m=(i+j)/2:=⟨_,rfl⟩;have Y:i<=m/\m<j:=by omega
 have aa:Hid (((i:Int)+(j:Int))/2=(m:Int)):=by show((i:Int)+(j:Int))/2=(m:Int);omega
 clear hm;have hh:m<n:=by omega
 obtain⟨b,o,rfl,hb,J,G,E,B⟩:=(V.below k) _ hh;obtain⟨r0,r1,r2,r3⟩:=dt J G E B;clear J G E B;have m3:(0:Int)<=(m:Int):=by omega
 have m4:(m:Int)<(n:Int):=by omega
 go_wp2_with fail;rw[aa.out];cases x:decide (mu (z m) t<0);rotate_left
 .have g:mu (z m) t<0:=by simpa using x
  have H:Hid _:=g;clear g;refine Qxq (by kernel_rfl) (by kernel_rfl) ?_
  repeat(go_big_quiet_step((go_at_call 132;exact Xxz (um (z m) t _))))
  refine Qqz ?_;intro _ f;obtain⟨⟨U,y⟩,d⟩:=f;subst d;go_wp2_with fail;go_roundw
  case measure=>simp[intOf];omega
  refine⟨m+1,j,by omega,hj,by go_num,by go_num,λq hq => ?_,K.out.2,A.trans ((Qxx _ _ _).mono M)⟩;by_cases F:q=m
  .rw[F];exact H.out
  exact Pw (S.out q m (by omega) (by omega)) H.out
 have g:¬mu (z m) t<0:=by simpa using x
 have H:Hid _:=g;clear g;refine Qxq (by kernel_rfl) (by kernel_rfl) ?_
 repeat(go_big_quiet_step((go_at_call 132;exact Xxz (um (z m) t _))))
 refine Qqz ?_;intro _ f;obtain⟨⟨U,y⟩,d⟩:=f;subst d;go_wp2_with fail;go_roundw
 case measure=>simp[intOf];omega
 refine⟨i,m,Y.1,by omega,by go_num,by go_num,K.out.1,λq x g => ?_,A.trans ((Qxx _ _ _).mono M)⟩;by_cases F:q=m
 .rw[F];exact Int.not_lt.1 H.out
 rcases Int.lt_or_le (mu (z q) t) 0 with h|h
 .exact absurd (Pw (S.out m q (by omega) g) h) H.out
 exact h
end Go.Proofs.YtbcacebifpagpagGreat
namespace Go.Proofs.YtbcacebifpagpagGreat
variable{n b A g o l c i q j R L M:Nat}{w a d:World}{r W J D:Int}{e H:TypeId}{p:Pl}{z O:Nat->Hd}{f f':Nat->Value}{Q:Exit->Act->World->Prop}{v c1 c3 c2:Value}{xs:List Value}{U V:Hs}{X Y:Int->Int->Int}{P:Program}{h Z:Hd}{t:List UInt8}{E:Hd->Bool}{z' zs:Nat->Int}{S:World->Prop}{a1:Act}{K:Act->World->Prop}
open _root_.Go.Proofs.Tryz
open Go.RowKit Go.Shelf Go.Lib
theorem L8:(prog.info? 61).map (λi=>(i.zero,i.size,i.bytes))=some (some (.agg #[.int .i64 0,.int .i64 0,.int .i64 0,.int .i64 0]),4,32):=by kernel_rfl
theorem aao(n:Nat)(w:World)(q:n<=1000):
  Calls prog 162 #[.slice none 0 0,.int .i64 n] w λe j=>∃v,e = .returned v/\j.ownsRow w.heap.size 61 4 v 0 []/\Below w.heap.size w j:=by
 obtain⟨d,hi,g,p,c⟩:=info_parts L8;by_cases l:n=0
 .subst l;go_enter func162,ntmps162
  go_wp2
  go_ret;exact⟨_,rfl,World.ownsRow_nil _ _ _ _,Below.refl _ _⟩
 have hold:(Builtin.firstCells d.size 0 (.slice none 0 0)).run prog w.drew = .ok (#[]:Array Value) w.drew:=run_firstCells_none w.drew d.size 0 0 0;have b:∀f,(Builtin.append_ #[28,3] f #[.slice none 0 0,.int .i64 (n:Int)]).run prog w =
   .ok (.slice (some ⟨w.heap.size,0,none⟩) n (grownCap w n 0 61)) (w.drew.alloc (.cells (#[]++Builtin.zeroCells (Value.agg #[.int .i64 0,.int .i64 0,.int .i64 0,.int .i64 0]).cells n++Builtin.zeroCells (Value.agg #[.int .i64 0,.int .i64 0,.int .i64 0,.int .i64 0]).cells (grownCap w n 0 61-n)) 61)):=λf=>by
  have h:=Lib.run_append_grow_zeros w 28 3 f 61 d (.agg #[.int .i64 0,.int .i64 0,.int .i64 0,.int .i64 0]) .i64 .i64 underlying28 underlying3 hi g none 0 0 [] hold n (by omega) (by omega) (by omega) (by omega)
   (by rw[c];omega)
   (by rw[Nat.zero_add];exact growslice_fits (by omega) (by rw[c];omega))
  rw[Nat.zero_add] at h;exact h
 have i:n<=grownCap w n 0 61:=grownCap_ge w _ _ _;have a:=grownCap_le_maxLen w n 0 61 (by unfold maxLen;omega);obtain⟨G,k⟩:∃G,G=grownCap w n 0 61:=⟨_,rfl⟩;rw[<-k] at b i a;have m:=hid a;unfold maxLen at a;have o:(0:Int)<(n:Int):=by omega
 clear hold k;go_enter func162,ntmps162;go_wp2_with(at_builtin;refine Lib.wpList_append_run _ rfl _ _ _ _ rfl _ _ rfl rfl _ _ (b _) ?_);go_ret;refine⟨_,rfl,?_,(brf.alloc nlr _).drew⟩;exact(World.ownsRow_made (base:=w.heap.size) (e:=61) (size:=4) w (Builtin.zeroCells #[.int .i64 0,.int .i64 0,.int .i64 0,.int .i64 0] n++Builtin.zeroCells #[.int .i64 0,.int .i64 0,.int .i64 0,.int .i64 0] (G-n)) G nlr m.out (by
  simp[Builtin.zeroCells];omega)).drew
def ay(n:Nat)(z:Nat->Hd):List Value:=(List.range n).flatMap λi=>dc (z i)
theorem eu:∀(n:Nat) (z:Nat->Hd),(ay n z).length=n*4
 | 0,_=>rfl
 | n+1,z=>by
  have:=eu n z;unfold ay at *;rw[List.range_succ,List.flatMap_append,List.length_append,this];simp[dc];omega
theorem tw(n:Nat)(z:Nat->Hd):ay (n+1) z=ay n z++dc (z n):=by
 unfold ay;rw[List.range_succ,List.flatMap_append];simp
theorem xv:∀(n:Nat) (z:Nat->Hd) (i c:Nat),i<n->c<4->(ay n z)[i*4+c]?=(dc (z i))[c]?
 | n+1,z,i,c,hi,hc=>by
  rw[tw];by_cases a:i=n
  .subst a;rw[List.getElem?_append_right (by rw[eu];omega),eu]
   congr 1
   omega
  rw[List.getElem?_append_left (by rw[eu];omega)];exact xv n z i c (by omega) hc
theorem ot{z':Nat->Hd}(h:∀i,i<n->z i=z' i):ay n z=ay n z':=by
 unfold ay;rw[List.flatMap_def,List.flatMap_def];rw[List.map_congr_left λi hi=>by rw[h i (List.mem_range.1 hi)]]
theorem mw(n:Nat)(z:Nat->Hd):∀u∈ay n z,u.oneCell'=true:=by
 intro u a;unfold ay at a;rw[List.mem_flatMap] at a;obtain⟨i,_,hi⟩:=a;simp[dc] at hi;rcases hi with rfl|rfl|rfl|rfl<;>rfl
theorem jj.news(h:jj w (some ⟨b,o,none⟩) n z):∀j u,(ay n z)[j]?=some u->w.cell? ((⟨b,o,none⟩:Addr).add j)=some u:=by
 intro j u a;have l:j<n*4:=by
  have:=(List.getElem?_eq_some_iff.1 a).1
  rwa[eu] at this
 have e:j=(j/4)*4+j%4:=by omega
 have d:j/4<n:=by omega
 obtain⟨m,p,c,_,g,f,k,i⟩:=h (j/4) d;simp only[Qkx,Qkz,and_true] at c;obtain⟨rfl,rfl⟩:=c;rw[e,xv n z _ _ d (by omega)] at a;rw[Go.WideShapes.add_plain];have hc:j%4=0\/j%4=1\/j%4=2\/j%4=3:=by omega
 rcases hc with hc|hc|hc|hc
 .rw[hc] at a;simp[dc] at a;rw[<-a,<-g];congr 2;omega
 .rw[hc] at a;simp[dc] at a;rw[<-a,<-f];congr 2;omega
 .rw[hc] at a;simp[dc] at a;rw[<-a,<-k];congr 2;omega
 rw[hc] at a;simp[dc] at a;rw[<-a,<-i];congr 2;omega
theorem Hs.ofOwns{base:Nat}(h:w.ownsRow base e 4 v n (ay n z)):∃s:Hs,v=s.val/\s.At w/\s.n=n/\s.z=z:=by
 by_cases b:v = .slice none 0 0
 .have p:n=0:=by
   rcases h.2 with⟨_,o⟩|⟨g,cap,cur,a,_⟩
   .exact o
   rw[b] at a;cases a
  subst p;exact⟨⟨none,0,0,z⟩,b,⟨Nat.le_refl _,Qxz _,λi hi=>absurd hi (Qzq _),λ_=>rfl⟩,rfl,rfl⟩
 obtain⟨g,c,rfl,m,l,r,f⟩:=Blk.ofOwns h b;refine⟨⟨some ⟨g,0,none⟩,n,c,z⟩,rfl,⟨m,l,λi hi => ?_,λh=>by cases h⟩,rfl,rfl⟩;have j:i<n:=hi;have k:∀q,q<4->w.cell? ⟨g,0+i*4+q,none⟩=some ((ay n z).getD (i*4+q) default):=λq d=>by
  rw[Nat.zero_add];exact f.cell (by omega)
 have e:∀q,q<4->(ay n z).getD (i*4+q) default=(dc (z i)).getD q default:=λq d=>by
  simp only[List.getD,xv n z i q j d]
 refine⟨g,0,rfl,f.lt,?_,?_,?_,?_⟩
 .have:=k 0 (by omega);rw[e 0 (by omega)] at this;simpa[dc] using this
 .have:=k 1 (by omega);rw[e 1 (by omega)] at this;simpa[dc] using this
 .have:=k 2 (by omega);rw[e 2 (by omega)] at this;simpa[dc] using this
 have:=k 3 (by omega);rw[e 3 (by omega)] at this;simpa[dc] using this
end Go.Proofs.YtbcacebifpagpagGreat
namespace Go.Proofs.YtbcacebifpagpagGreat
variable{n b A g o l c i q j R L M:Nat}{w a d:World}{r W J D:Int}{e H:TypeId}{p:Pl}{z O:Nat->Hd}{f f':Nat->Value}{Q:Exit->Act->World->Prop}{v c1 c3 c2:Value}{xs:List Value}{U V:Hs}{X Y:Int->Int->Int}{P:Program}{h Z:Hd}{t:List UInt8}{E:Hd->Bool}{z' zs:Nat->Int}{S:World->Prop}{a1:Act}{K:Act->World->Prop}
open _root_.Go.Proofs.Tryz
open Go.RowKit Go.Shelf
def vg(S:Nat->Hs):Nat->Nat
 | 0=>0
 | k+1=>vg S k+(S k).n
def C2(S:Nat->Hs):Nat->List Value
 | 0=>[]
 | k+1=>C2 S k++ay (S k).n (S k).z
theorem Pk{S:Nat->Hs}{m:Nat}(h:∀i,i<m->(S i).n<=100):∀k,k<=m->vg S k<=100*k
 | 0,_=>by simp[vg]
 | k+1,hk=>by
  have:=Pk h k (by omega);have:=h k (by omega);simp only[vg];omega
theorem Gv(m g J:Nat)(S:Nat->Hs)(w:World)(hm:m<=3)(aj:m<=J)(ac:J<=maxLen)(W:Blk w g 28 m (λi => .slice (S i).a (S i).n (S i).c))(H:∀i,i<m->(S i).At w)(hn:∀i,i<m->(S i).n<=100):
  Calls prog 147 #[.slice (some ⟨g,0,none⟩) m J] w λe X=>∃v,e = .returned v/\X.ownsRow w.heap.size 61 4 v (vg S m) (C2 S m)/\Below w.heap.size w X:=by
 obtain⟨Y,hi,T,aa,V⟩:=info_parts L8;have K:=hid H;have F:=hid hn;clear H hn;unfold maxLen at ac;go_enter func147,ntmps147;go_wp2_with fail
 go_loop [3,11] (λu i=>∃k:Nat,k<=m/\i = .int .i64 k/\u = .int .i64 (vg S k:Nat)) (λ_ i=>m-(intOf i).toNat)
 case atStart=>exact⟨0,Qxz _,rfl,rfl⟩
 obtain⟨k,hk,rfl,rfl⟩:=hrel;have b1:=Pk F.out k hk;by_cases r:k<m
 .have b2:=F.out k r;have P:=W.cell r;have le:=(K.out k r).le;have cap:=(K.out k r).cap;unfold maxLen at cap;have t:Hid (vg S (k+1)=vg S k+(S k).n):=rfl
  generalize vg S k=U at b1 t ⊢
  go_wp2_with fail
  go_round
  case rel=>exact⟨k+1,by omega,by go_num,by rw[t.out];go_num⟩
  case measure=>simp[intOf];omega
 have af:k=m:=by omega
 subst af;go_wp2_with fail;refine(aao (vg S k) w (by omega)).mono ?_;rintro e w1 ⟨v0,rfl,d,ae⟩;go_wp2_with fail
 go_loopw [6,27] (λv i Q=>∃j:Nat,j<=k/\i = .int .i64 j/\Q.ownsRow w.heap.size 61 4 v (vg S j) (C2 S j)/\Below w.heap.size w Q) (λ_ i _=>k-(intOf i).toNat)
 case atStart=>exact⟨0,Qxz _,rfl,d,ae⟩
 obtain⟨j,hj,rfl,d,p⟩:=hrel;by_cases y:j<k;rotate_left
 .have M:j=k:=by omega
  subst M;go_wp2_with fail;go_ret;exact⟨_,rfl,d,p⟩
 have P:=(W.below p).cell y;have hs:=(K.out j y).below p;have b2:=F.out j y;have b3:=Pk F.out j (by omega);cases A:(S j).a with
 | none =>
  have G:(S j).n=0:=by
   rcases Nat.eq_zero_or_pos (S j).n with h|h
   .exact h
   obtain⟨_,_,s,_⟩:=hs.hds 0 h;rw[A] at s;cases s
  rw[A,G,hs.nilc A] at P;have t:Hid (vg S (j+1)=vg S j/\C2 S (j+1)=C2 S j):=by
   show _/\_;simp[vg,C2,G,ay]
  go_wp2_with(at_builtin;refine wpList_append_own_none rfl (.tmp 31) (.tmp 32) 28 rfl w.heap.size 61 Y 4 underlying28 hi _ _ _ rfl d rfl ?_);go_roundw
  case rel=>exact⟨j+1,by omega,by go_num,by rw[t.out.1,t.out.2];exact d,p⟩
  case measure=>simp[intOf];omega
 | some ad =>
  have f:=hs.hds;rw[A] at P f;go_wp2_with(at_builtin;refine wpList_append_own _ rfl (.tmp 31) (.tmp 32) 28 rfl w.heap.size 61 Y (.agg #[.int .i64 0,.int .i64 0,.int .i64 0,.int .i64 0]) 4 32 underlying28 hi T aa V rfl (by decide) _ _ _ rfl d ad (S j).n (S j).c (ay (S j).n (S j).z) rfl ?c1 ?c2 ?c3 ?c4 ?c5 ?c6 ?_)
  case c1=>exact eu _ _
  case c2 =>
   intro q u B;have L:0<(S j).n:=by
    have:=(List.getElem?_eq_some_iff.1 B).1;rw[eu] at this;omega
   obtain⟨b,o,s,_⟩:=f 0 L;simp only[Qkx] at s;subst s;exact f.news q u B
  case c3=>exact mw _ _
  case c4=>unfold maxLen;omega
  case c5=>omega
  case c6=>exact p.size
  intro v' w2 D l E;have x:=d.lt;have ag:Below w.heap.size w w2:=p.grown l p.size (λq B=>(x q B).1);clear l E x f;go_wp2_with fail;go_roundw
  case rel=>exact⟨j+1,by omega,by go_num,D,ag⟩
  case measure=>simp[intOf];omega
def cw(A:Nat)(e:TypeId)(w:World)(s:Hs):Prop:=s.n<=s.c/\s.c<=maxLen/\(s.a=none->s.c=0)/\(0<s.n->∃g,s.a=some ⟨g,0,none⟩/\A<=g/\Blk w g e (s.n*4) (λj=>(ay s.n s.z).getD j default))
theorem cw.at{s:Hs}(h:cw A e w s):s.At w:=by
 obtain⟨f,r,l,p⟩:=h;refine⟨f,r,λi hi => ?_,l⟩;obtain⟨g,d,t,b⟩:=p (by omega);have c:∀k,k<4->w.cell? ⟨g,0+i*4+k,none⟩=(dc (s.z i))[k]?:=λk q=>by
  have m:=b.cell (j:=i*4+k) (by omega);have o:=xv s.n s.z i k hi q;have a:i*4+k<(ay s.n s.z).length:=by rw[eu];omega
  rw[Nat.zero_add,m,<-o,List.getElem?_eq_getElem a];simp[List.getD,List.getElem?_eq_getElem a]
 exact⟨g,0,d,b.lt,c 0 (by decide),c 1 (by decide),c 2 (by decide),c 3 (by decide)⟩
theorem cw.below{s:Hs}(h:cw A e w s)(i:Below w.heap.size w a):cw A e a s:=by
 obtain⟨m,k,c,f⟩:=h;refine⟨m,k,c,λl => ?_⟩;obtain⟨g,d,j,b⟩:=f l;exact⟨g,d,j,b.below i⟩
theorem Blk.ne2{d:TypeId}{k:Nat}(h:Blk w g e n f)(j:Blk w b d k f')(i:e≠d):g≠b:=by
 rintro rfl;obtain⟨c,hc,_⟩:=h;obtain⟨l,a,_⟩:=j;rw[hc] at a;cases a;exact i rfl
theorem cw.other{t:TypeId}{s:Hs}(h:cw A e w s)(k:Blk w q t n f)(c:e≠t)(j:Nat)(u:Value):cw A e (w.setCell ⟨q,j,none⟩ u) s:=by
 obtain⟨l,p,m,o⟩:=h;refine⟨l,p,m,λr => ?_⟩;obtain⟨g,d,i,b⟩:=o r;exact⟨g,d,i,b.other (a:=⟨q,j,none⟩) (Blk.ne2 b k c) u⟩
theorem cw.mono{a:Nat}{s:Hs}(h:cw A e w s)(m:a<=A):cw a e w s:=by
 obtain⟨k,i,c,f⟩:=h;refine⟨k,i,c,λj => ?_⟩;obtain⟨g,d,l,b⟩:=f j;exact⟨g,d,by omega,b⟩
def fu(A:Nat)(w:World)(e:TypeId)(size:Nat)(a:Option Addr)(c:Nat):Prop:=c=0\/∃g cur,a=some ⟨g,0,none⟩/\A<=g/\w.heap[g]?=some (.cells cur e (0,0))/\cur.size=c*size
theorem fu.ofOwns{size:Nat}{a:Option Addr}{k:Nat}(h:w.ownsRow A e size (.slice a n c) k xs)(d:b<=A):fu b w e size a c:=by
 obtain⟨_,⟨h,_⟩|⟨g,cap,cur,h,f,i,l,o,j,m⟩⟩:=h
 .cases h;exact Or.inl rfl
 cases h;exact Or.inr ⟨g,cur,rfl,Qzx d f,i,j⟩
theorem fu.same{b:World}{size:Nat}{a:Option Addr}(h:fu A w e size a c)(hs:∀(g:Nat) (cur:Array Value),w.heap[g]?=some (.cells cur e (0,0))->b.heap[g]?=w.heap[g]?):fu A b e size a c:=by
 rcases h with h|⟨g,cur,j,i,d,f⟩
 .exact Or.inl h
 exact Or.inr ⟨g,cur,j,i,(hs g cur d).trans d,f⟩
theorem fu.below{b:World}{size:Nat}{a:Option Addr}(h:fu A w e size a c)(f:Below w.heap.size w b):fu A b e size a c :=
 h.same λg _ d=>f.block g (Qkq d).1
theorem fu.mono{size:Nat}{a:Option Addr}(h:fu A w e size a c)(i:b<=A):fu b w e size a c:=by
 rcases h with h|⟨g,cur,f,j,d⟩
 .exact Or.inl h
 exact Or.inr ⟨g,cur,f,by omega,d⟩
theorem fu.set{size:Nat}{a:Option Addr}(h:fu A w e size a c)(q j:Nat)(u:Value):fu A (w.setCell ⟨q,j,none⟩ u) e size a c:=by
 rcases h with h|⟨g,cur,k,f,b,d⟩
 .exact Or.inl h
 by_cases i:g=q
 .subst i;exact Or.inr ⟨g,cur.setIfInBounds j u,k,f,by simp[World.setCell,Array.getElem?_modify,b],by simpa using d⟩
 exact Or.inr ⟨g,cur,k,f,(Below.heap_setCell w ⟨q,j,none⟩ u g i).trans b,d⟩
theorem cw.nil(A:Nat)(e:TypeId)(w:World)(z:Nat->Hd):cw A e w ⟨none,0,0,z⟩:=⟨Nat.le_refl _,Qxz _,λ_=>rfl,λh=>absurd h (Nat.lt_irrefl _)⟩
theorem cw.ofRow{base:Nat}(h:w.ownsRow base e 4 v n (ay n z))(d:A<=base):∃s:Hs,v=s.val/\cw A e w s/\s.n=n/\s.z=z:=by
 by_cases b:v = .slice none 0 0
 .have m:n=0:=by
   rcases h.2 with⟨_,j⟩|⟨g,cap,cur,a,_⟩
   .exact j
   rw[b] at a;cases a
  subst m;exact⟨⟨none,0,0,z⟩,b,cw.nil A e w z,rfl,rfl⟩
 obtain⟨g,c,rfl,i,f,k,l⟩:=Blk.ofOwns h b;exact⟨⟨some ⟨g,0,none⟩,n,c,z⟩,rfl,⟨i,f,(λe=>by cases e),λ_=>⟨g,rfl,Qzx d k,l⟩⟩,rfl,rfl⟩
theorem Du:(prog.info? 3).map (λi=>(i.zero,i.size,i.bytes))=some (some (.int .i64 0),1,8):=by kernel_rfl
theorem Su:(prog.info? 23).map (λi=>(i.zero,i.size,i.bytes))=some (some (.slice none 0 0),1,24):=by kernel_rfl
theorem Ep(b o n c:Nat)(z:Nat->Int)(w:World)(D:n*8<=140737488355328)(V:0<n)
  (hc:xp w (some ⟨b,o,none⟩) n z) :
  Calls prog 140 #[.slice (some ⟨b,o,none⟩) n c] w λe y=>∃g d,e = .returned (.slice (some ⟨g,0,none⟩) n d)/\n<=d/\d<=maxLen/\w.heap.size<=g/\Blk y g 3 n (λj => .int .i64 (z j))/\Below w.heap.size w y:=by
 obtain⟨H,hi,s,A,v⟩:=info_parts Du;have T:∀(w:World) (a:Option Addr) (n c r d:Nat),(binOp .eql 23 (.slice a n c) (.slice none r d)).run prog w = .ok (.bool a.isNone) w:=λw a n c r d=>Lib.run_eql_slice_nil w _ _ a n c r d underlying23;go_enter func140,ntmps140;go_wp2_with(at_builtin;refine wpList_append_own _ rfl _ _ 23 rfl w.heap.size 3 H (.int .i64 0) 1 8 underlying23 hi s A v rfl (by decide) _ _ _ rfl (World.ownsRow_made w #[] 0 nlr (Qxz _) rfl) ⟨b,o,none⟩ n c ((List.range n).map λj=>Value.int .i64 (z j)) rfl ?qc1 ?qc2 ?qc3 ?qc4 ?qc5 ?qc6 ?_)
 case qc1=>simp
 case qc2 =>
  intro j u l;have q:j<n:=by
   have:=(List.getElem?_eq_some_iff.1 l).1
   simpa using this
  obtain⟨U,W,t,Q,m⟩:=hc j q;simp only[Qkx,Qkz,and_true] at t;obtain⟨rfl,rfl⟩:=t;rw[Go.WideShapes.add_plain];rw[((Below.refl w.heap.size w).alloc nlr _).cell (p:=⟨b,o+j,none⟩) Q,m];simp[q] at l;rw[l]
 case qc3=>intro u K;obtain⟨x,_,rfl⟩:=List.mem_map.1 K;rfl
 case qc4=>unfold maxLen;omega
 case qc5=>omega
 case qc6=>simp
 intro J E i f h;have M:J ≠ .slice none 0 0:=h;obtain⟨g,d,rfl,F,S,G,B⟩:=Blk.ofOwns i M;rw[Nat.mul_one] at B;have L:Below w.heap.size w E:=((Below.refl _ w).alloc nlr _).grown f (by simp) (by intro k P;simp[Value.ownBlock] at P;omega);clear i f h hc
 go_wp2
 go_ret;exact⟨g,d,rfl,F,S,G,B.congr (λj l=>by simp[l]),L⟩
theorem Wp(a:j<n):(madeCells (Value.slice none 0 0).cells n).toList.getD j default = .slice none 0 0:=by
 simp[madeCells,Value.cells,a,Nat.mod_one]
theorem Ja(s:Sh)(w:World)(hs:s.At w)(hn:s.n<=6)(hr:∀i,i<s.n->1<=(s.r i).n/\(s.r i).n<=3):
  Calls prog 136 #[s.val] w λe T=>∃(g:Nat) (G C:Nat->Nat),e = .returned (.slice (some ⟨g,0,none⟩) s.n s.n)/\w.heap.size<=g /\
   Blk T g 23 s.n (λi => .slice (some ⟨G i,0,none⟩) (s.r i).n (C i)) /\
   (∀i,i<s.n->g<G i/\(s.r i).n<=C i/\C i<=maxLen/\Blk T (G i) 3 (s.r i).n (λj => .int .i64 ((s.r i).z j))) /\
   (∀i j,i<j->j<s.n->G i<G j)/\Below w.heap.size w T:=by
 obtain⟨ai,y,rows⟩:=hs;obtain⟨s0,q,sc,a⟩:=s;dsimp only at ai y rows hn hr;unfold maxLen at y;simp only[Sh.val];obtain⟨i0,hi,ae,ah,V⟩:=info_parts Su;go_enter func136,ntmps136;go_wp2_with(at_make;refine wpList_make_full _ rfl _ _ 26 rfl w.heap.size 23 i0 (.slice none 0 0) 1 underlying26 hi ae ah .i64 .i64 _ _ q rfl rfl rfl rfl (by rw[V];omega) (by unfold maxLen;omega) nlr ?_;intro w1 x h);obtain⟨g,c',Y,_,_,_,u⟩:=Blk.ofOwns x (by simp);simp only[Value.slice.injEq,Qkx,Qkz,and_true] at Y;obtain⟨rfl,-,-⟩:=Y;rw[Nat.mul_one] at u;have W:Below w.heap.size w w1:=(Below.refl _ w).grown h nlr (by intro k hk;cases hk);clear x h
 go_loopw [11] (λi S=>∃k:Nat,k<=q/\i = .int .i64 k/\(∃(G C:Nat->Nat),Blk S w.heap.size 23 q (λi=>if i<k then .slice (some ⟨G i,0,none⟩) (a i).n (C i) else .slice none 0 0) /\
   (∀i,i<k->w.heap.size<G i/\(a i).n<=C i/\C i<=maxLen/\Blk S (G i) 3 (a i).n (λj => .int .i64 ((a i).z j))) /\
   (∀i j,i<j->j<k->G i<G j))/\Below w.heap.size w S) (λi _=>q-(intOf i).toNat)
 case atStart=>exact⟨0,Qxz _,rfl,⟨λ_=>0,λ_=>0,u.congr (λj f=>by rw[Wp f];simp),λi hi=>absurd hi (Qzq _),λi j _ f=>absurd f (Qzq _)⟩,W⟩
 obtain⟨k,hk,rfl,A,F⟩:=hrel;by_cases B:k<q;rotate_left
 .go_wp2_with fail;go_ret;have ag:k=q:=by omega
  subst ag;obtain⟨G,C,D,c,t⟩:=A;exact⟨w.heap.size,G,C,rfl,Nat.le_refl _,D.congr (λj f=>by simp[f]),c,t,F⟩
 obtain⟨b,o,rfl,hb,z0,ad⟩:=(rows.below F) k B;have ay:=hr k B;obtain⟨a0,ak,ints⟩:=ad;obtain⟨b1,o1,ha,ax,y0⟩:=ints 0 (by omega);rw[ha] at z0 ints;clear y0;have HG:Hid _:=A;clear A ha;have m1:(0:Int)<=(k:Int):=by omega
 go_wp2_with fail;refine(Ep b1 o1 _ _ (a k).z _ (by omega) (by omega) ints).mono ?_;rintro e X ⟨g,c2,rfl,h1,h2,h3,h4,v⟩;obtain⟨G,C,D,c,t⟩:=HG.out;have aw:=D.lt;have l:=D.below v;have az:=l.frozen k;have aa:=l.cell B;simp only[Nat.lt_irrefl,if_false] at aa;have U:=F.trans (v.mono F.size);have st:=U.setCell (p:=⟨w.heap.size,k,none⟩) nlr (.slice (some ⟨g,0,none⟩) (a k).n c2);have E:=l.set k (.slice (some ⟨g,0,none⟩) (a k).n c2);have L:∀i,i<k->Blk (X.setCell ⟨w.heap.size,k,none⟩ (.slice (some ⟨g,0,none⟩) (a k).n c2)) (G i) 3 (a i).n (λj => .int .i64 ((a i).z j)):=λi hi=>((c i hi).2.2.2.below v).other (by have:=(c i hi).1;show _≠w.heap.size;omega) _;have K:Blk (X.setCell ⟨w.heap.size,k,none⟩ (.slice (some ⟨g,0,none⟩) (a k).n c2)) g 3 (a k).n (λj => .int .i64 ((a k).z j)):=h4.other (by show _≠w.heap.size;omega) _;have J:∀i,i<k->G i<g:=λi hi=>by have:=(c i hi).2.2.2.lt;omega
 have H:Hid _:=And.intro E (And.intro L (And.intro K (And.intro J (And.intro c t))));clear E L K J D l t h4 c;go_wp2_with fail;go_roundw
 case measure=>simp[intOf];omega
 obtain⟨E,L,K,J,c,t⟩:=H.out;refine⟨k+1,by omega,by go_num,⟨λi=>if i=k then g else G i,λi=>if i=k then c2 else C i,E.congr ?_,?_,?_⟩,st⟩
 .intro j f;by_cases d:j=k
  .subst d;simp
  by_cases M:j<k
  .simp[d,M,show j<k+1 by omega]
  simp[d,M,show ¬j<k+1 by omega]
 .intro i hi;by_cases P:i=k
  .subst P;simp only[if_true];exact⟨by omega,h1,h2,K⟩
  simp only[P,if_false];have m:i<k:=by omega
  exact⟨(c i m).1,(c i m).2.1,(c i m).2.2.1,L i m⟩
 intro i j Q f;by_cases d:j=k
 .subst d;simp[show ¬i=j by omega,J i Q]
 simp[d,show ¬i=k by omega,t i j Q (by omega)]
def qm(A:Nat)(e:TypeId)(s:Hs)(w':World)(s':Hs):Prop:=s'.n=s.n/\(∀j,j<s.n->s'.z j=s.z j)/\cw A e w' s'/\fu A w' e 4 s'.a s'.c
theorem cw.ofOwns{base:Nat}(h:w.ownsRow base e 4 v n (ay n z))(i:v ≠ .slice none 0 0):∃s:Hs,v=s.val/\s.n=n/\s.z=z/\cw base e w s/\fu base w e 4 s.a s.c:=by
 obtain⟨g,c,rfl,j,f,b,d⟩:=Blk.ofOwns h i;exact⟨⟨some ⟨g,0,none⟩,n,c,z⟩,rfl,rfl,rfl,⟨j,f,(λe=>by cases e),λ_=>⟨g,rfl,b,d⟩⟩,fu.ofOwns h nlr⟩
theorem Jj:(prog.info? 61).map (λi=>(i.zero,i.size,i.bytes))=some (some (.agg #[.int .i64 0,.int .i64 0,.int .i64 0,.int .i64 0]),4,32):=by kernel_rfl
theorem Qz(s:Hs)(w:World)(hs:s.At w)(V:s.n<=1000):
  Calls prog 138 #[s.val] w λe J=>∃d:Hs,e = .returned d.val/\qm w.heap.size 61 s J d/\Below w.heap.size w J:=by
 obtain⟨L,x,sh,f⟩:=hs;obtain⟨sa,l,T,t⟩:=s;dsimp only at L x sh f V;simp only[Hs.val];obtain⟨U,hi,E,K,H⟩:=info_parts Jj;have ab:∀(w:World) (a:Option Addr) (n c D B:Nat),(binOp .eql 28 (.slice a n c) (.slice none D B)).run prog w = .ok (.bool a.isNone) w:=λw a n c D B=>Lib.run_eql_slice_nil w _ _ a n c D B underlying28;cases sa with
 | none =>
  have P:=f rfl;subst P;have M:l=0:=by omega
  subst M;go_enter func138,ntmps138
  go_wp2
  go_ret;exact⟨⟨none,0,0,t⟩,rfl,⟨rfl,λj r=>rfl,⟨Nat.le_refl _,Qxz _,λ_=>rfl,λh=>absurd h (Nat.lt_irrefl _)⟩,Or.inl rfl⟩,Below.refl _ _⟩
 | some ad =>
  have g:∀j u,(ay l t)[j]?=some u->w.cell? (ad.add j)=some u/\(ad.add j).block<w.heap.size:=λj u r=>by
   have A:=(List.getElem?_eq_some_iff.1 r).1;rw[eu] at A;obtain⟨b,o,F,hb,-⟩:=sh 0 (by omega);simp only[Qkx] at F;subst F;exact⟨jj.news sh j u r,by rw[Go.WideShapes.add_plain];exact hb⟩
  have X:=hid g;clear g sh f;go_enter func138,ntmps138;go_wp2_with(at_builtin;refine wpList_append_own _ rfl _ _ 28 rfl w.heap.size 61 U (.agg #[.int .i64 0,.int .i64 0,.int .i64 0,.int .i64 0]) 4 32 underlying28 hi E K H rfl (by decide) _ _ _ rfl (World.ownsRow_made w #[] 0 nlr (Qxz _) rfl) ad l T (ay l t) rfl ?qc1 ?qc2 ?qc3 ?qc4 ?qc5 ?qc6 ?_)
  case qc1=>rw[eu]
  case qc2 =>
   intro j u r;have:=X.out j u r;rw[((Below.refl w.heap.size w).alloc nlr _).cell (p:=ad.add j) this.2];exact this.1
  case qc3=>exact mw l t
  case qc4=>unfold maxLen;omega
  case qc5=>omega
  case qc6=>simp
  intro v' v q i m;have W:Below w.heap.size w v:=((Below.refl _ w).alloc nlr _).grown i (by simp) (by intro k Y;simp[Value.ownBlock] at Y;omega);obtain⟨d,rfl,Q,G,S⟩:=cw.ofOwns q m;clear q i m;have y:Hid (d.n=l/\d.z=t/\cw w.heap.size 61 v d/\fu w.heap.size v 61 4 d.a d.c):=⟨Q,G,S⟩;clear Q G S;simp only[Hs.val]
  go_wp2
  go_ret;exact⟨d,rfl,⟨y.out.1,λj _=>by rw[y.out.2.1],y.out.2.2⟩,W⟩
theorem Qd:(prog.info? 63).map (λi=>(i.zero,i.size,i.bytes))=some (some (.agg #[.int .i64 0,.int .i64 0,.int .i64 0,.int .i64 0]),4,32):=by kernel_rfl
theorem Q0(s:Hs)(w:World)(hs:s.At w)(V:s.n<=1000):
  Calls prog 139 #[s.val] w λe J=>∃d:Hs,e = .returned d.val/\qm w.heap.size 63 s J d/\Below w.heap.size w J:=by
 obtain⟨L,x,sh,f⟩:=hs;obtain⟨sa,l,T,t⟩:=s;dsimp only at L x sh f V;simp only[Hs.val];obtain⟨U,hi,E,K,H⟩:=info_parts Qd;have ab:∀(w:World) (a:Option Addr) (n c D B:Nat),(binOp .eql 29 (.slice a n c) (.slice none D B)).run prog w = .ok (.bool a.isNone) w:=λw a n c D B=>Lib.run_eql_slice_nil w _ _ a n c D B underlying29;cases sa with
 | none =>
  have P:=f rfl;subst P;have M:l=0:=by omega
  subst M;go_enter func139,ntmps139
  go_wp2
  go_ret;exact⟨⟨none,0,0,t⟩,rfl,⟨rfl,λj r=>rfl,⟨Nat.le_refl _,Qxz _,λ_=>rfl,λh=>absurd h (Nat.lt_irrefl _)⟩,Or.inl rfl⟩,Below.refl _ _⟩
 | some ad =>
  have g:∀j u,(ay l t)[j]?=some u->w.cell? (ad.add j)=some u/\(ad.add j).block<w.heap.size:=λj u r=>by
   have A:=(List.getElem?_eq_some_iff.1 r).1;rw[eu] at A;obtain⟨b,o,F,hb,-⟩:=sh 0 (by omega);simp only[Qkx] at F;subst F;exact⟨jj.news sh j u r,by rw[Go.WideShapes.add_plain];exact hb⟩
  have X:=hid g;clear g sh f;go_enter func139,ntmps139;go_wp2_with(at_builtin;refine wpList_append_own _ rfl _ _ 29 rfl w.heap.size 63 U (.agg #[.int .i64 0,.int .i64 0,.int .i64 0,.int .i64 0]) 4 32 underlying29 hi E K H rfl (by decide) _ _ _ rfl (World.ownsRow_made w #[] 0 nlr (Qxz _) rfl) ad l T (ay l t) rfl ?qc1 ?qc2 ?qc3 ?qc4 ?qc5 ?qc6 ?_)
  case qc1=>rw[eu]
  case qc2 =>
   intro j u r;have:=X.out j u r;rw[((Below.refl w.heap.size w).alloc nlr _).cell (p:=ad.add j) this.2];exact this.1
  case qc3=>exact mw l t
  case qc4=>unfold maxLen;omega
  case qc5=>omega
  case qc6=>simp
  intro v' v q i m;have W:Below w.heap.size w v:=((Below.refl _ w).alloc nlr _).grown i (by simp) (by intro k Y;simp[Value.ownBlock] at Y;omega);obtain⟨d,rfl,Q,G,S⟩:=cw.ofOwns q m;clear q i m;have y:Hid (d.n=l/\d.z=t/\cw w.heap.size 63 v d/\fu w.heap.size v 63 4 d.a d.c):=⟨Q,G,S⟩;clear Q G S;simp only[Hs.val]
  go_wp2
  go_ret;exact⟨d,rfl,⟨y.out.1,λj _=>by rw[y.out.2.1],y.out.2.2⟩,W⟩
theorem Cv:(prog.info? 59).map (λi=>(i.zero,i.size,i.bytes))=some (some (.agg #[.int .i64 0,.int .i64 0,.int .i64 0,.int .i64 0]),4,32):=by kernel_rfl
theorem Ic(s:Hs)(w:World)(hs:s.At w)(V:s.n<=1000):
  Calls prog 94 #[s.val] w λe J=>∃d:Hs,e = .returned d.val/\qm w.heap.size 59 s J d/\Below w.heap.size w J:=by
 obtain⟨L,x,sh,f⟩:=hs;obtain⟨sa,l,T,t⟩:=s;dsimp only at L x sh f V;simp only[Hs.val];obtain⟨U,hi,E,K,H⟩:=info_parts Cv;have ab:∀(w:World) (a:Option Addr) (n c D B:Nat),(binOp .eql 45 (.slice a n c) (.slice none D B)).run prog w = .ok (.bool a.isNone) w:=λw a n c D B=>Lib.run_eql_slice_nil w _ _ a n c D B underlying45;cases sa with
 | none =>
  have P:=f rfl;subst P;have M:l=0:=by omega
  subst M;go_enter func94,ntmps94
  go_wp2
  go_ret;exact⟨⟨none,0,0,t⟩,rfl,⟨rfl,λj r=>rfl,⟨Nat.le_refl _,Qxz _,λ_=>rfl,λh=>absurd h (Nat.lt_irrefl _)⟩,Or.inl rfl⟩,Below.refl _ _⟩
 | some ad =>
  have g:∀j u,(ay l t)[j]?=some u->w.cell? (ad.add j)=some u/\(ad.add j).block<w.heap.size:=λj u r=>by
   have A:=(List.getElem?_eq_some_iff.1 r).1;rw[eu] at A;obtain⟨b,o,F,hb,-⟩:=sh 0 (by omega);simp only[Qkx] at F;subst F;exact⟨jj.news sh j u r,by rw[Go.WideShapes.add_plain];exact hb⟩
  have X:=hid g;clear g sh f;go_enter func94,ntmps94;go_wp2_with(at_builtin;refine wpList_append_own _ rfl _ _ 45 rfl w.heap.size 59 U (.agg #[.int .i64 0,.int .i64 0,.int .i64 0,.int .i64 0]) 4 32 underlying45 hi E K H rfl (by decide) _ _ _ rfl (World.ownsRow_made w #[] 0 nlr (Qxz _) rfl) ad l T (ay l t) rfl ?qc1 ?qc2 ?qc3 ?qc4 ?qc5 ?qc6 ?_)
  case qc1=>rw[eu]
  case qc2 =>
   intro j u r;have:=X.out j u r;rw[((Below.refl w.heap.size w).alloc nlr _).cell (p:=ad.add j) this.2];exact this.1
  case qc3=>exact mw l t
  case qc4=>unfold maxLen;omega
  case qc5=>omega
  case qc6=>simp
  intro v' v q i m;have W:Below w.heap.size w v:=((Below.refl _ w).alloc nlr _).grown i (by simp) (by intro k Y;simp[Value.ownBlock] at Y;omega);obtain⟨d,rfl,Q,G,S⟩:=cw.ofOwns q m;clear q i m;have y:Hid (d.n=l/\d.z=t/\cw w.heap.size 59 v d/\fu w.heap.size v 59 4 d.a d.c):=⟨Q,G,S⟩;clear Q G S;simp only[Hs.val]
  go_wp2
  go_ret;exact⟨d,rfl,⟨y.out.1,λj _=>by rw[y.out.2.1],y.out.2.2⟩,W⟩
structure Od where
 k:Int
 ls:Hs
def Od.val(x:Od):Value := .agg #[.int .i64 x.k,.slice x.ls.a x.ls.n x.ls.c]
def Ch(w:World)(a:Option Addr)(n:Nat)(z:Nat->Od):Prop :=
 ∀i,i<n->∃b o,a=some ⟨b,o,none⟩/\b<w.heap.size/\w.cell? ⟨b,o+i*2,none⟩=some (.int .i64 (z i).k) /\
  w.cell? ⟨b,o+i*2+1,none⟩=some (.slice (z i).ls.a (z i).ls.n (z i).ls.c)/\(z i).ls.At w
theorem Ch.below{e:World}{a:Option Addr}{z:Nat->Od}(h:Ch w a n z)(c:Below w.heap.size w e):Ch e a n z:=by
 intro i hi;obtain⟨b,o,g,d,f,k,j⟩:=h i hi;exact⟨b,o,g,Xzx d c.size,(c.cell (p:=⟨b,o+i*2,none⟩) d).trans f,(c.cell (p:=⟨b,o+i*2+1,none⟩) d).trans k,j.below c⟩
structure Os where
 a:Option Addr
 n:Nat
 c:Nat
 z:Nat->Od
def Os.val(s:Os):Value := .slice s.a s.n s.c
structure Os.At(w:World)(s:Os):Prop where
 le:s.n<=s.c
 cap:s.c<=maxLen
 ods:Ch w s.a s.n s.z
theorem Os.At.below{s:Os}(h:s.At w)(b:Below w.heap.size w a):s.At a:=⟨h.le,h.cap,h.ods.below b⟩
structure St where
 on:Sh
 os:Os
 hs:Hs
 ms:Hs
 si:Rw
 so:Rw
 sf:Rw
variable{s x y u:St}
def St.cells(s:St):Array Value:=#[.slice s.on.a s.on.n s.on.c,.slice s.os.a s.os.n s.os.c,.slice s.hs.a s.hs.n s.hs.c,.slice s.ms.a s.ms.n s.ms.c,.slice s.si.a s.si.n s.si.c,.slice s.so.a s.so.n s.so.c,.slice s.sf.a s.sf.n s.sf.c]
def St.val(s:St):Value := .agg #[.slice s.on.a s.on.n s.on.c,.slice s.os.a s.os.n s.os.c,.slice s.hs.a s.hs.n s.hs.c,.slice s.ms.a s.ms.n s.ms.c,.slice s.si.a s.si.n s.si.c,.slice s.so.a s.so.n s.so.c,.slice s.sf.a s.sf.n s.sf.c]
structure St.At(w:World)(s:St):Prop where
 on:s.on.At w
 os:s.os.At w
 hs:s.hs.At w
 ms:s.ms.At w
 si:s.si.At w
 so:s.so.At w
 sf:s.sf.At w
theorem St.At.below{b:World}(h:s.At w)(a:Below w.heap.size w b):s.At b:=⟨h.on.below a,h.os.below a,h.hs.below a,h.ms.below a,h.si.below a,h.so.below a,h.sf.below a⟩
def rb(o:Od):Bool := !inB o.ls.n 1 3
def gh(s:St):Bool:=decide (4<s.os.n)||decide (8<s.ms.n)||ax s.os.n (λi=>rb (s.os.z i))
def ki(p:Pl)(x:Hd):Bool := !inB x.o 0 ((p.ns:Int)-1) || !inB x.l 1 200 || !inB x.b 0 x.l || !inB x.n 0 x.l
def mf(p:Pl)(o:Od):Bool := !inB o.k 0 2||ax o.ls.n (λj=>ki p (o.ls.z j))
def jo(p:Pl)(s:St):Bool:=ax s.os.n (λi=>mf p (s.os.z i))
def jf(p:Pl)(s:St)(h:Hd):Bool := !inB h.o 0 ((s.os.n:Int)-1) || !inB h.l 0 (((s.os.z h.o.toNat).ls.n:Int)-1) || !inB h.b 0 ((p.nb:Int)-1)
def gt(p:Pl)(s:St):Bool := !(gz s.hs.n s.hs.z==0)||ax s.hs.n (λi=>jf p s (s.hs.z i))
def mp(p:Pl)(m:Hd):Bool := !inB m.o 0 ((p.ns:Int)-1) || !inB m.l 0 ((p.nb:Int)-1) || !inB m.b 0 ((p.nb:Int)-1)||(m.l==m.b) || !inB m.n 1 200
def kt(p:Pl)(s:St):Bool:=ax s.ms.n (λi=>mp p (s.ms.z i))
def mh(p:Pl)(l:Rw)(low:Int):Bool:=((l.n:Int) !=(p.ns:Int))||ax l.n (λi => !inB (l.z i) low 1048576)
def fs(p:Pl)(s:St):Bool:=mh p s.si 0||mh p s.so 0||mh p s.sf (-1048576)
def jw(s:St)(h:Hd):Int:=((s.os.z h.o.toNat).ls.z h.l.toNat).o
def ca(s:St)(b g:Int):Nat->Int
 | 0=>0
 | k+1=>ca s b g k+(if (s.hs.z k).b=b/\jw s (s.hs.z k)=g then(s.hs.z k).n else 0)
def bj(s:St)(b g:Int):Nat->Int
 | 0=>0
 | k+1=>bj s b g k+(if (s.ms.z k).l=b/\(s.ms.z k).o=g then(s.ms.z k).n else 0)
def aw(s:St)(b g:Nat):Int:=(s.on.r b).z g-ca s b g s.hs.n-bj s b g s.ms.n
def iy(p:Pl)(s:St)(g:Nat):Bool := !(cv (λi=>(s.on.r i).z g) s.on.n==s.si.z g-s.so.z g+s.sf.z g)||ax p.nb (λb=>decide (aw s b g<0))
def lq(p:Pl)(s:St):Bool:=ax p.ns (iy p s)
def jy(x:Hd):Bool := !(x.b==x.l)
def cp(k:Int)(x:Hd)(kept:Int):Bool:=if k=0 then !(x.b==0) || !(x.n==0) || !(kept==0) else if k=2 then !(x.b+x.n==x.l) || !(kept==0) else !(x.b+x.n+kept==x.l)
def ch(s:St)(i:Nat):Bool:=((s.os.z i).k==1 && !ax (s.os.z i).ls.n (λj=>jy ((s.os.z i).ls.z j)))||ax (s.os.z i).ls.n (λj=>cp (s.os.z i).k ((s.os.z i).ls.z j) (keptS s.hs.z i j s.hs.n))
def jn(s:St):Bool:=ax s.os.n (ch s)
def ag(p:Pl)(s:St):Int :=
 if fa p s.on=0 then(if gh s then 2 else if jo p s||gt p s||kt p s||fs p s then 1 else if lq p s||jn s then 7 else 0) else fa p s.on
structure cx(p:Pl)(s:St):Prop where
 sh:vz p s.on
 sh0:fa p s.on=0
 os4:s.os.n<=4
 ms8:s.ms.n<=8
 lns:∀i,i<s.os.n->1<=(s.os.z i).ls.n/\(s.os.z i).ls.n<=3
 kind:∀i,i<s.os.n->0<=(s.os.z i).k/\(s.os.z i).k<=2
 line:∀i,i<s.os.n->∀j,j<(s.os.z i).ls.n->ki p ((s.os.z i).ls.z j)=false
 hold:ax s.hs.n (db s.hs.z)=false
 home:∀i,i<s.hs.n->jf p s (s.hs.z i)=false
 move:∀i,i<s.ms.n->mp p (s.ms.z i)=false
 sin:s.si.n=p.ns
 son:s.so.n=p.ns
 sfn:s.sf.n=p.ns
 sib:∀j,j<p.ns->0<=s.si.z j/\s.si.z j<=1048576
 sob:∀j,j<p.ns->0<=s.so.z j/\s.so.z j<=1048576
 sfb:∀j,j<p.ns -> -1048576<=s.sf.z j/\s.sf.z j<=1048576
theorem Ix{l:Rw}(h:mh p l r=false):l.n=p.ns/\∀j,j<p.ns->r<=l.z j/\l.z j<=1048576:=by
 unfold mh at h;rw[Xxq] at h;have a:l.n=p.ns:=by have c:(l.n:Int)=(p.ns:Int):=(by simpa using h.1);omega
 refine⟨a,λj b => ?_⟩;have:=dk h.2 j (by omega);simp only[Bool.not_eq_false'] at this;exact au this
theorem formed(l:fa p s.on=0)(k:gh s=false)(u:jo p s=false)(h:gt p s=false)(t:kt p s=false)(g:fs p s=false):cx p s:=by
 unfold gh at k;unfold gt at h;unfold fs at g;simp only[Xxq,decide_eq_false_iff_not] at k h g;obtain⟨a,b⟩:=Ix g.1.1;obtain⟨c,d⟩:=Ix g.1.2;obtain⟨e,f⟩:=Ix g.2;have m:∀i,i<s.os.n->mf p (s.os.z i)=false:=dk u;refine⟨(wh l).2,l,by omega,by omega,λi hi => ?_,λi hi => ?_,λi hi j o => ?_,?_,dk h.2,dk t,a,c,e,b,d,f⟩
 .have:=dk k.2 i hi;simp only[rb,Bool.not_eq_false'] at this;have:=au this;omega
 .have:=m i hi;simp only[mf,Xxq,Bool.not_eq_false'] at this;exact au this.1
 .have:=m i hi;simp only[mf,Xxq] at this;exact dk this.2 j o
 have q:=h.1;cases r:ax s.hs.n (db s.hs.z)
 .rfl
 simp[gz,r] at q
theorem i8(e:jf p s h=false):(0<=h.o/\h.o.toNat<s.os.n)/\(0<=h.l/\h.l.toNat<(s.os.z h.o.toNat).ls.n)/\0<=h.b/\h.b<p.nb:=by
 simp only[jf,Xxq,Bool.not_eq_false'] at e;obtain⟨⟨a,b⟩,c⟩:=e;have:=au a;have:=au b;have:=au c;omega
theorem rv{m:Hd}(e:mp p m=false):(0<=m.o/\m.o<p.ns)/\(0<=m.l/\m.l<p.nb)/\(0<=m.b/\m.b<p.nb)/\¬m.l=m.b/\1<=m.n/\m.n<=200:=by
 simp only[mp,Xxq,Bool.not_eq_false',beq_eq_false_iff_ne,ne_eq] at e;obtain⟨⟨⟨⟨a,b⟩,c⟩,d⟩,f⟩:=e;have:=au a;have:=au b;have:=au c;have:=au f;omega
theorem er{x:Hd}(e:ki p x=false):(0<=x.o/\x.o<p.ns)/\(1<=x.l/\x.l<=200)/\(0<=x.b/\x.b<=x.l)/\0<=x.n/\x.n<=x.l:=by
 simp only[ki,Xxq,Bool.not_eq_false'] at e;obtain⟨⟨⟨a,b⟩,c⟩,d⟩:=e;have:=au a;have:=au b;have:=au c;have:=au d;omega
theorem nw{s:St}{b g:Int}:∀{n:Nat},(∀j,j<n->1<=(s.hs.z j).n/\(s.hs.z j).n<=200)->0<=ca s b g n/\ca s b g n<=200*n
 | 0,_=>by simp[ca]
 | n+1,h=>by
  have c:=nw (b:=b) (g:=g) (n:=n) λj a=>h j (by omega);have:=h n (by omega);simp only[ca]
  split<;>omega
theorem jx{s:St}{b g:Int}:∀{n:Nat},(∀j,j<n->1<=(s.ms.z j).n/\(s.ms.z j).n<=200)->0<=bj s b g n/\bj s b g n<=200*n
 | 0,_=>by simp[bj]
 | n+1,h=>by
  have c:=jx (b:=b) (g:=g) (n:=n) λj a=>h j (by omega);have:=h n (by omega);simp only[bj]
  split<;>omega
theorem cx.holdN(f:cx p s):∀j,j<s.hs.n->1<=(s.hs.z j).n/\(s.hs.z j).n<=200:=λj a=>(cz (cd f.hold j a)).2.2.2
theorem cx.moveN(f:cx p s):∀j,j<s.ms.n->1<=(s.ms.z j).n/\(s.ms.z j).n<=200:=λj a=>(rv (f.move j a)).2.2.2.2
theorem cx.hs72(f:cx p s):s.hs.n<=72:=yf f.hold
structure ar(p:Pl)(s:St):Prop where
 fm:cx p s
 goods:∀g,g<p.ns->iy p s g=false
 orders:∀i,i<s.os.n->ch s i=false
theorem dp(h:ag p s=0):ar p s:=by
 unfold ag at h;by_cases b:fa p s.on=0
 .rw[if_pos b] at h;cases d:gh s
  .rw[d] at h;cases a:(jo p s||gt p s||kt p s||fs p s)
   .rw[a] at h;cases c:(lq p s||jn s)
    .simp only[Xxq] at a c;exact⟨formed b d a.1.1.1 a.1.1.2 a.1.2 a.2,dk c.1,dk c.2⟩
    rw[c] at h;simp at h
   rw[a] at h;simp at h
  rw[d] at h;simp at h
 rw[if_neg b] at h;exact absurd h b
def qy(x:Od):List Value:=[.int .i64 x.k,.slice x.ls.a x.ls.n x.ls.c]
def jq:Nat->(Nat->Od)->List Value
 | 0,_=>[]
 | n+1,z=>jq n z++qy (z n)
theorem tx:∀(n:Nat) (z:Nat->Od),(jq n z).length=n*2
 | 0,_=>rfl
 | n+1,z=>by rw[jq,List.length_append,tx n z];simp[qy];omega
theorem Ji:∀(n:Nat) (z:Nat->Od) (i c:Nat),i<n->c<2->(jq n z)[i*2+c]?=(qy (z i))[c]?
 | 0,_,i,c,hi,_=>absurd hi (Qzq _)
 | n+1,z,i,c,hi,hc=>by
  rw[jq];by_cases h:i=n
  .subst h;rw[List.getElem?_append_right (by rw[tx];omega),tx]
   congr 1
   omega
  rw[List.getElem?_append_left (by rw[tx];omega)];exact Ji n z i c (by omega) hc
theorem qc{z:Nat->Od}(hi:i<n)(hc:c<2):(jq n z).getD (i*2+c) default=(qy (z i)).getD c default:=by
 simp only[List.getD,Ji n z i c hi hc]
theorem P8:∀(n:Nat) (z:Nat->Od),∀u∈jq n z,u.oneCell'=true
 | 0,_,u,a=>by simp[jq] at a
 | n+1,z,u,a=>by
  rw[jq,List.mem_append] at a;rcases a with a|a
  .exact P8 n z u a
  simp only[qy,List.mem_cons,List.not_mem_nil,or_false] at a;rcases a with rfl|rfl<;>rfl
theorem Ch.news{z:Nat->Od}(h:Ch w (some ⟨b,o,none⟩) n z):∀j u,(jq n z)[j]?=some u->w.cell? ((⟨b,o,none⟩:Addr).add j)=some u:=by
 intro j u a;have d:=(List.getElem?_eq_some_iff.1 a).1;rw[tx] at d;obtain⟨i,k,e,l,g,f,-⟩:=h (j/2) (by omega);simp only[Qkx,Qkz,and_true] at e;obtain⟨rfl,rfl⟩:=e;rw[Go.WideShapes.add_plain];have hd:j=j/2*2+j%2:=by omega
 rw[hd,Ji n z (j/2) (j%2) (by omega) (by omega)] at a;have c:j%2=0\/j%2=1:=by omega
 rcases c with c|c
 .rw[c] at a;simp[qy] at a;rw[<-a,<-g];congr 2;omega
 rw[c] at a;simp[qy] at a;rw[<-a,<-f];congr 2;omega
theorem De:(prog.info? 57).map (λi=>(i.zero,i.size,i.bytes))=some (some (.agg #[.int .i64 0,.slice none 0 0]),2,32):=by kernel_rfl
def Ux(s:Os)(A:Nat)(w':World)(a':Option Addr)(c':Nat):Prop:=s.n<=c'/\c'<=maxLen/\(0<s.n->∃g,a'=some ⟨g,0,none⟩/\A<=g/\Blk w' g 57 (s.n*2) (λj=>(jq s.n s.z).getD j default))/\fu A w' 57 2 a' c'
theorem Ot(s:Os)(w:World)(hs:s.At w)(S:s.n<=1000):
  Calls prog 160 #[s.val] w λe F=>∃a' d,e = .returned (.slice a' s.n d)/\Ux s w.heap.size F a' d/\Below w.heap.size w F:=by
 obtain⟨H,x,sh⟩:=hs;obtain⟨sa,i,D,v⟩:=s;dsimp only at H x sh S;simp only[Os.val];obtain⟨Q,hi,A,G,E⟩:=info_parts De;have Y:∀(w:World) (a:Option Addr) (n c z d:Nat),(binOp .eql 27 (.slice a n c) (.slice none z d)).run prog w = .ok (.bool a.isNone) w:=λw a n c z d=>Lib.run_eql_slice_nil w _ _ a n c z d underlying27;cases sa with
 | none =>
  have J:i=0:=by
   rcases Nat.eq_zero_or_pos i with h|h
   .exact h
   obtain⟨b,o,r,_⟩:=sh 0 h;cases r
  subst J;go_enter func160,ntmps160
  go_wp2
  go_ret;exact⟨none,0,rfl,⟨Nat.le_refl _,Qxz _,λh=>absurd h (Nat.lt_irrefl _),Or.inl rfl⟩,Below.refl _ _⟩
 | some ad =>
  have U:Hid (∀j u,(jq i v)[j]?=some u->w.cell? (ad.add j)=some u/\(ad.add j).block<w.heap.size):=λj u t=>by
   have y:=(List.getElem?_eq_some_iff.1 t).1;rw[tx] at y;obtain⟨b,o,r,W,-⟩:=sh 0 (by omega);simp only[Qkx] at r;subst r;exact⟨Ch.news sh j u t,by rw[Go.WideShapes.add_plain];exact W⟩
  clear sh;go_enter func160,ntmps160;go_wp2_with(at_builtin;refine wpList_append_own _ rfl _ _ 27 rfl w.heap.size 57 Q (.agg #[.int .i64 0,.slice none 0 0]) 2 32 underlying27 hi A G E rfl (by decide) _ _ _ rfl (World.ownsRow_made w #[] 0 nlr (Qxz _) rfl) ad i D (jq i v) rfl ?qc1 ?qc2 ?qc3 ?qc4 ?qc5 ?qc6 ?_)
  case qc1=>rw[tx]
  case qc2 =>
   intro j u t;have:=U.out j u t;rw[((Below.refl w.heap.size w).alloc nlr _).cell (p:=ad.add j) this.2];exact this.1
  case qc3=>exact P8 i v
  case qc4=>unfold maxLen;omega
  case qc5=>omega
  case qc6=>simp
  intro v' B f l q;have T:Below w.heap.size w B:=((Below.refl _ w).alloc nlr _).grown l (by simp) (by intro k V;simp[Value.ownBlock] at V;omega);obtain⟨g,d,rfl,L,X,M,K⟩:=Blk.ofOwns f q;have m:=fu.ofOwns f nlr;clear f l q;have P:Hid (Ux ⟨some ad,i,D,v⟩ w.heap.size B (some ⟨g,0,none⟩) d):=⟨L,X,λ_=>⟨g,rfl,M,K⟩,m⟩;clear K m
  go_wp2
  go_ret;exact⟨some ⟨g,0,none⟩,d,rfl,P.out,T⟩
structure kq(A:Nat)(w:World)(s:Os):Prop where
 le:s.n<=s.c
 cap:s.c<=maxLen
 list:0<s.n->∃g,s.a=some ⟨g,0,none⟩/\A<=g/\Blk w g 57 (s.n*2) (λj=>(jq s.n s.z).getD j default)
 lines:∀i,i<s.n->∃B,(s.z i).ls.a=some ⟨B,0,none⟩/\A<=B/\(s.z i).ls.n<=(s.z i).ls.c/\(s.z i).ls.c<=maxLen/\Blk w B 59 ((s.z i).ls.n*4) (λj=>(ay (s.z i).ls.n (s.z i).ls.z).getD j default)
 apart:∀i j,i<j->j<s.n->(s.z i).ls.a≠(s.z j).ls.a
 room:fu A w 57 2 s.a s.c
theorem kq.at{s:Os}(h:kq A w s):s.At w:=by
 refine⟨h.le,h.cap,λi hi => ?_⟩;obtain⟨g,l,o,a⟩:=h.list (by omega);obtain⟨B,d,c,k,m,f⟩:=h.lines i hi;have b:=a.cell (j:=i*2) (by omega);have c1:=a.cell (j:=i*2+1) (by omega);have e0:=qc (z:=s.z) hi (show 0<2 by decide);have n:=qc (z:=s.z) hi (show 1<2 by decide);rw[Nat.add_zero] at e0;rw[e0] at b;rw[n] at c1;refine⟨g,0,l,a.lt,by rw[Nat.zero_add];exact b,by rw[Nat.zero_add];exact c1,?_⟩;exact cw.at (A:=A) (e:=59) ⟨k,m,(λe=>by rw[d] at e;cases e),λ_=>⟨B,d,c,f⟩⟩
def Vn(s t:Os):Prop:=s.n=t.n/\∀i,i<s.n->(s.z i).k=(t.z i).k/\(s.z i).ls.n=(t.z i).ls.n/\∀j,j<(s.z i).ls.n->(s.z i).ls.z j=(t.z i).ls.z j
def mx(s:Os)(k:Nat)(B C:Nat->Nat)(i:Nat):Od:=if i<k then ⟨(s.z i).k,⟨some ⟨B i,0,none⟩,(s.z i).ls.n,C i,(s.z i).ls.z⟩⟩ else s.z i
def ac3(s:Os)(A:Nat)(a':Option Addr)(c' k:Nat)(wk:World):Prop:=fu A wk 57 2 a' c'/\∃B C:Nat->Nat,(0<s.n->∃g,a'=some ⟨g,0,none⟩/\A<=g/\Blk wk g 57 (s.n*2) (λj=>(jq s.n (mx s k B C)).getD j default)) /\
 (∀i,i<k->A<=B i/\(s.z i).ls.n<=C i/\C i<=maxLen/\Blk wk (B i) 59 ((s.z i).ls.n*4) (λj=>(ay (s.z i).ls.n (s.z i).ls.z).getD j default))/\(∀i j,i<j->j<k->B i<B j)
theorem zw:∀{n:Nat} {z z':Nat->Od},(∀i,i<n->qy (z i)=qy (z' i))->jq n z=jq n z'
 | 0,_,_,_=>rfl
 | n+1,z,z',h=>by rw[jq,jq,zw (n:=n) λi hi=>h i (by omega),h n (by omega)]
theorem aba{s:Os}{k:Nat}{B C:Nat->Nat}{a:Nat}(p:k<s.n)(j:Nat)(o:j<s.n*2):
  (if j=k*2+1 then Value.slice (some ⟨a,0,none⟩) (s.z k).ls.n b else(jq s.n (mx s k B C)).getD j default)=(jq s.n (mx s (k+1) (λi=>if i=k then a else B i) (λi=>if i=k then b else C i))).getD j default:=by
 have hd:j=j/2*2+j%2:=by omega
 have d:j%2=0\/j%2=1:=by omega
 have hi:j/2<s.n:=by omega
 have g:=qc (z:=mx s k B C) hi (show j%2<2 by omega);have f:=qc (z:=mx s (k+1) (λi=>if i=k then a else B i) (λi=>if i=k then b else C i)) hi (show j%2<2 by omega);rw[<-hd] at g f;rw[g,f];by_cases c:j/2=k
 .have h:mx s k B C (j/2)=s.z k:=by unfold mx;rw[if_neg (by omega),c]
  have l:mx s (k+1) (λi=>if i=k then a else B i) (λi=>if i=k then b else C i) (j/2)=⟨(s.z k).k,⟨some ⟨a,0,none⟩,(s.z k).ls.n,b,(s.z k).ls.z⟩⟩:=by unfold mx;rw[if_pos (by omega)];simp[c]
  rw[h,l];rcases d with d|d
  .rw[if_neg (by omega),d];rfl
  rw[if_pos (by omega),d];rfl
 rw[if_neg (by omega)];have m:mx s k B C (j/2)=mx s (k+1) (λi=>if i=k then a else B i) (λi=>if i=k then b else C i) (j/2):=by
  unfold mx;by_cases e:j/2<k
  .rw[if_pos e,if_pos (by omega)];simp[c]
  rw[if_neg e,if_neg (by omega)]
 rw[m]
theorem O3(s:Os)(w:World)(hs:s.At w)(hn:s.n<=1000)(hl:∀i,i<s.n->1<=(s.z i).ls.n/\(s.z i).ls.n<=3):
  Calls prog 137 #[s.val] w λe w'=>∃Q:Os,e = .returned Q.val/\Vn Q s/\kq w.heap.size w' Q/\Below w.heap.size w w':=by
 have HS:=hid hs;have HL:=hid hl;have bg:=hs.le;have ak:=hs.cap;unfold maxLen at ak;clear hs hl;simp only[Os.val];go_enter func137,ntmps137;go_wp2_with fail;refine(Ot s w HS.out hn).mono ?_;rintro e w1 ⟨a',c',rfl,F,X⟩;have v:=hid F;clear F;have c1:=v.out.1;have c2:=v.out.2.1;unfold maxLen at c2;go_wp2_with fail
 go_loopw [10] (λi wk=>∃k:Nat,k<=s.n/\i = .int .i64 k/\Hid (ac3 s w.heap.size a' c' k wk)/\Below w.heap.size w wk) (λi _=>s.n-(intOf i).toNat)
 case atStart =>
  refine⟨0,Qxz _,rfl,⟨v.out.2.2.2,λ_=>0,λ_=>0,λh => ?_,λi hi=>absurd hi (Qzq _),λi j _ t=>absurd t (Qzq _)⟩,X⟩;obtain⟨g,U,V,e3⟩:=v.out.2.2.1 h;exact⟨g,U,V,e3.congr (λj t=>by rw[zw (z':=mx s 0 (λ_=>0) (λ_=>0)) λi hi=>by unfold mx;rw[if_neg (by omega)]])⟩
 clear X;obtain⟨k,hk,rfl,HG,J⟩:=hrel;by_cases D:k<s.n;rotate_left
 .have ax:k=s.n:=by omega
  subst ax;go_wp2_with fail;go_ret;obtain⟨d,B,C,y,r,q⟩:=HG.out;refine⟨⟨a',s.n,c',mx s s.n B C⟩,rfl,⟨rfl,λi hi => ?_⟩,⟨c1,v.out.2.1,y,λi hi => ?_,λi j A t => ?_,d⟩,J⟩
  .have E:i<s.n:=hi;have m:mx s s.n B C i=⟨(s.z i).k,⟨some ⟨B i,0,none⟩,(s.z i).ls.n,C i,(s.z i).ls.z⟩⟩:=by unfold mx;rw[if_pos E]
   show(mx s s.n B C i).k=_/\(mx s s.n B C i).ls.n=_/\_;rw[m];exact⟨rfl,rfl,λj _=>by show(mx s s.n B C i).ls.z j=_;rw[m]⟩
  .have E:i<s.n:=hi;have m:mx s s.n B C i=⟨(s.z i).k,⟨some ⟨B i,0,none⟩,(s.z i).ls.n,C i,(s.z i).ls.z⟩⟩:=by unfold mx;rw[if_pos E]
   show ∃B',(mx s s.n B C i).ls.a=_/\_/\(mx s s.n B C i).ls.n<=(mx s s.n B C i).ls.c/\(mx s s.n B C i).ls.c<=maxLen/\Blk _ B' _ ((mx s s.n B C i).ls.n*4) (λj=>(ay (mx s s.n B C i).ls.n (mx s s.n B C i).ls.z).getD j default);rw[m];obtain⟨r1,r2,r3,r4⟩:=r i E;exact⟨B i,rfl,r1,r2,r3,r4⟩
  have ac:j<s.n:=t;show(mx s s.n B C i).ls.a≠(mx s s.n B C j).ls.a;unfold mx;rw[if_pos (by omega),if_pos ac];have:=q i j A ac;simp only[ne_eq,Qkx,Qkz,and_true];omega
 obtain⟨b,o,ab,hb,z0,z1,ad⟩:=(HS.out.below J).ods k D;have qk:(0:Int)<=(k:Int):=by omega
 obtain⟨d,B,C,y,r,q⟩:=HG.out;have am:=hid d;obtain⟨g,H,hA,gb⟩:=y (by omega);have S:=qa3 r q H;have W:=hid gb;have bc:=HL.out k D;have x:=(Below.refl wr.heap.size wr).alloc nlr (.cells #[.int .i64 (s.z k).k,.slice (s.z k).ls.a (s.z k).ls.n (s.z k).ls.c] 57);have P:=ad.below x;rw[ab,H];clear ab H y r q gb HG ad d;go_wp2_with fail;refine(Ic (s.z k).ls _ P (by omega)).mono ?_;rintro e T ⟨Q,rfl,F,aa⟩;obtain⟨be,bf,u,bb⟩:=Q;obtain⟨U,V,⟨o1,o2,o3,o4⟩,-⟩:=F;dsimp only at U V o1 o2 o3 o4;subst U;obtain⟨G,e3,a9,kB⟩:=o4 (by omega);subst e3;have M:Blk T G 59 ((s.z k).ls.n*4) (λj=>(ay (s.z k).ls.n (s.z k).ls.z).getD j default):=kB.congr (λj t=>by rw[ot V]);have l:=x.trans (aa.mono x.size);have f:=W.out.below l;have bh:=x.size;have hf:=f.frozen (k*2+1);have hc:=f.cell (j:=k*2+1) (by omega);rw[qc (z:=mx s k B C) D (show 1<2 by decide)] at hc;have hm:mx s k B C k=s.z k:=by unfold mx;rw[if_neg (by omega)]
 rw[hm] at hc;have bd:T.cell? ⟨g,k*2+1,none⟩=some (.slice (s.z k).ls.a (s.z k).ls.n (s.z k).ls.c):=hc;have ba:=f.lt;have K:=J.trans (l.mono J.size);have KB:=f.set (k*2+1) (.slice (some ⟨G,0,none⟩) (s.z k).ls.n u);have HN:Hid (ac3 s w.heap.size (some ⟨g,0,none⟩) c' (k+1) (T.setCell ⟨g,k*2+1,none⟩ (.slice (some ⟨G,0,none⟩) (s.z k).ls.n u))/\Below w.heap.size w (T.setCell ⟨g,k*2+1,none⟩ (.slice (some ⟨G,0,none⟩) (s.z k).ls.n u))):=by
  refine⟨⟨(by have h:=(am.out.below l).set g (k*2+1) (.slice (some ⟨G,0,none⟩) (s.z k).ls.n u);rw[S.out.2.2] at h;exact h),λi=>if i=k then G else B i,λi=>if i=k then u else C i,λ_=>⟨g,rfl,hA,KB.congr (λj t=>aba D j t)⟩,λi hi => ?_,λi j A t => ?_⟩,K.setCell (p:=⟨g,k*2+1,none⟩) hA _⟩
  .dsimp only;by_cases L:i=k
   .subst L;rw[if_pos rfl,if_pos rfl];exact⟨by have:=J.size;omega,o1,o2,M.other (a:=⟨g,i*2+1,none⟩) (Blk.ne2 M f (by decide)) _⟩
   rw[if_neg L,if_neg L];obtain⟨r1,r2,r3,r4⟩:=S.out.1 i (by omega);have r5:=r4.below l;exact⟨r1,r2,r3,r5.other (a:=⟨g,k*2+1,none⟩) (Blk.ne2 r5 f (by decide)) _⟩
  dsimp only;by_cases Y:j=k
  .subst Y;rw[if_neg (by omega),if_pos rfl];have:=(S.out.1 i A).2.2.2.lt;omega
  rw[if_neg (by omega),if_neg Y];exact S.out.2.1 i j A (by omega)
 clear KB kB M f hc hm l W aa P K;simp only[Hs.val];go_wp2_with fail;go_roundw
 case rel=>exact⟨k+1,by omega,by go_num,HN.out.1,HN.out.2⟩
 case measure=>simp[intOf];omega
def ad6:Nat->Bin
 | 0=>⟨false,100,0,0⟩
 | 1=>⟨true,30,4,8⟩
 | _=>⟨false,60,0,0⟩
def ad5:Nat->Int
 | 0=>2
 | _=>3
def qz(g1 g2:Nat):Pl:=⟨some ⟨g1,0,none⟩,3,3,ad6,some ⟨g2,0,none⟩,2,2,ad5⟩
def aca:Nat->Value:=λj=>(#[.bool false,.int .i64 100,.int .i64 0,.int .i64 0,.bool true,.int .i64 30,.int .i64 4,.int .i64 8,.bool false,.int .i64 60,.int .i64 0,.int .i64 0]:Array Value).getD j default
def acb:Nat->Value:=λj=>(#[.int .i64 2,.int .i64 3]:Array Value).getD j default
theorem aag{d:Nat}(a:Blk w c 68 12 aca)(e:Blk w d 3 2 acb):(qz c d).At w:=by
 refine⟨by simp[qz],by simp[qz,maxLen],λi hi => ?_,by simp[qz],by simp[qz,maxLen],λi hi => ?_⟩
 .have b:i<3:=hi;refine⟨c,0,rfl,a.lt,?_⟩
  match i,b with
  | 0,_=>exact⟨a.k 0,a.k 1,a.k 2,a.k 3⟩
  | 1,_=>exact⟨a.k 4,a.k 5,a.k 6,a.k 7⟩
  | 2,_=>exact⟨a.k 8,a.k 9,a.k 10,a.k 11⟩
 have b:i<2:=hi;refine⟨d,0,rfl,e.lt,?_⟩
 match i,b with
 | 0,_=>exact e.k 0
 | 1,_=>exact e.k 1
theorem Tt(w:World):
  Calls prog 26 #[] w λe a=>∃g1 g2,e = .returned (qz g1 g2).val/\w.heap.size<=g1/\g1≠g2/\Blk a g1 68 12 aca/\Blk a g2 3 2 acb/\Below w.heap.size w a:=by
 go_enter func26,ntmps26
 go_wp2
 refine Xzq (v:=(qz (w.heap.size+1) (w.heap.size+1+1)).val) (by simp[results,results26,go_sem,qz,Pl.val]) rfl ?_;refine⟨w.heap.size+1,w.heap.size+1+1,rfl,by omega,by omega,Blk.alloc (Blk.mk' (by simp) rfl) _,Blk.mk' (by simp) rfl,?_⟩;exact((brf.alloc nlr _).alloc (by simp) _).alloc (by simp;omega) _
def onZ:Nat->Nat->Int
 | 0,0=>5
 | 1,0=>1
 | 1,1=>2
 | _,_=>0
def onS(g:Nat)(n:Nat):Sh:=⟨some ⟨g+3,0,none⟩,n,3,λi=>⟨some ⟨g+i,0,none⟩,2,2,onZ i⟩⟩
open Go.Sort
theorem Aq(r s:Rw)(w:World)(x:r.At w)(hs:s.At w)(t:r.n=s.n)(l:∀j,j<r.n->r.z j=s.z j):
  Calls prog 30 #[r.val,s.val] w λe p=>e = .returned (.bool true)/\Below w.heap.size w p:=by
 obtain⟨ra,g,F,u⟩:=r;obtain⟨sa,L,E,J⟩:=s;obtain⟨D,h,b⟩:=x;obtain⟨A,f,d⟩:=hs;dsimp only at *;subst t;have v:Hid _:=l;clear l;unfold maxLen at h f;simp only[Rw.val];go_enter func30,ntmps30;go_wp2_with fail
 go_loopw [5] (λi o=>∃k:Nat,k<=g/\i = .int .i64 k/\Below w.heap.size w o) (λi _=>g-(intOf i).toNat)
 case atStart=>exact⟨0,Qxz _,rfl,Below.refl _ _⟩
 obtain⟨k,K,rfl,c⟩:=hrel;by_cases a:k<g
 .obtain⟨b1,G,rfl,y,q⟩:=(b.below c) k a;obtain⟨b2,H,rfl,B,m⟩:=(d.below c) k a;rw[<-v.out k a] at m
  generalize u k=Z at q m
  go_wp2_with fail
  go_quiet (fail)
  go_wp2_with fail;go_roundw
  case rel=>exact⟨k+1,by omega,by go_num,below_drewN c _⟩
  case measure=>simp[intOf];omega
 go_wp2_with fail;go_ret;exact⟨rfl,c⟩
theorem Rs(r s:Sh)(w:World)(G:r.At w)(hs:s.At w)(B:r.n=s.n)(q:∀i,i<r.n->(r.r i).n=(s.r i).n/\∀j,j<(r.r i).n->(r.r i).z j=(s.r i).z j):
  Calls prog 28 #[r.val,s.val] w λe y=>e = .returned (.bool true)/\Below w.heap.size w y:=by
 obtain⟨ra,g,T,D⟩:=r;obtain⟨sa,Y,P,x⟩:=s;obtain⟨M,h,d⟩:=G;obtain⟨K,f,c⟩:=hs;dsimp only at *;subst B;have E:Hid _:=q;clear q;unfold maxLen at h f;simp only[Sh.val];go_enter func28,ntmps28;go_wp2_with fail
 go_loopw [5] (λi v=>∃k:Nat,k<=g/\i = .int .i64 k/\Below w.heap.size w v) (λi _=>g-(intOf i).toNat)
 case atStart=>exact⟨0,Qxz _,rfl,Below.refl _ _⟩
 obtain⟨k,X,rfl,b⟩:=hrel;by_cases a:k<g;rotate_left
 .go_wp2_with fail;go_ret;exact⟨rfl,b⟩
 obtain⟨b1,U,rfl,H,A,o⟩:=(d.below b) k a;obtain⟨b2,W,rfl,L,F,t⟩:=(c.below b) k a;have p:=E.out k a;have m:Hid _:=p;clear p;have V:=Qqq A;have S:=Qqq F;go_wp2_with fail;refine Qxq (by kernel_rfl) (by kernel_rfl) ?_
 repeat(go_big_quiet_step((go_at_call 30;exact Xxz (Aq (D k) (x k) _ (o.below (Qxx _ _ _)) (t.below (Qxx _ _ _)) m.out.1 m.out.2))))
 refine Qqz ?_;intro _ u;obtain⟨⟨Q,J⟩,l⟩:=u;subst l;go_wp2_with fail;go_roundw
 case rel=>exact⟨k+1,by omega,by go_num,b.trans ((Qxx _ _ _).mono b.size)⟩
 case measure=>simp[intOf];omega
theorem Blk.ne{d:TypeId}{k:Nat}(h:Blk w g e n f)(j:Blk w b d k f')(i:e≠d):g≠b:=by
 rintro rfl;obtain⟨c,hc,_⟩:=h;obtain⟨l,a,_⟩:=j;rw[hc] at a;cases a;exact i rfl
theorem Zr(s:Sh)(w:World)(hs:s.At w)(hn:s.n<=6)(az:1<=s.n)(hr:∀i,i<s.n->1<=(s.r i).n/\(s.r i).n<=3):
  Calls prog 52 #[s.val] w λe w'=>∃(g c:Nat) (G C:Nat->Nat),e = .returned (.slice (some ⟨g,0,none⟩) s.n c)/\w.heap.size<=g/\s.n<=c/\c<=maxLen /\
   Blk w' g 23 s.n (λi => .slice (some ⟨G i,0,none⟩) (s.r i).n (C i)) /\
   (∀i,i<s.n->w.heap.size<=G i/\(s.r i).n<=C i/\C i<=maxLen/\Blk w' (G i) 3 (s.r i).n (λj => .int .i64 ((s.r i).z j))) /\
   (∀i j,i<j->j<s.n->G i<G j)/\Below w.heap.size w w':=by
 obtain⟨bf,T,rows⟩:=hs;obtain⟨s0,X,sc,d⟩:=s;dsimp only at bf T rows hn hr az;unfold maxLen at T;simp only[Sh.val];obtain⟨i0,hi,a8,be,aw⟩:=info_parts Su;obtain⟨i1,a,a1,a6,ax⟩:=info_parts Du;go_enter func52,ntmps52;go_wp2_with fail
 go_loopw [3,4] (λv i wk=>∃k:Nat,k<=X/\i = .int .i64 k/\(∃(G C:Nat->Nat),wk.ownsRow w.heap.size 23 1 v k ((List.range k).map λi=>Value.slice (some ⟨G i,0,none⟩) (d i).n (C i)) /\
   (∀i,i<k->w.heap.size<=G i/\(d i).n<=C i/\C i<=maxLen/\Blk wk (G i) 3 (d i).n (λj => .int .i64 ((d i).z j))) /\
   (∀i j,i<j->j<k->G i<G j))/\Below w.heap.size w wk) (λ_ i _=>X-(intOf i).toNat)
 case atStart=>exact⟨0,Qxz _,rfl,⟨λ_=>0,λ_=>0,World.ownsRow_nil _ _ _ _,λi hi=>absurd hi (Qzq _),λi j _ a=>absurd a (Qzq _)⟩,Below.refl _ _⟩
 obtain⟨k,hk,rfl,U,H⟩:=hrel;by_cases ai:k<X;rotate_left
 .go_wp2_with fail;go_ret;have ba:k=X:=by omega
  subst ba;obtain⟨G,C,V,A,K⟩:=U;have hv:∃g c,u3 = .slice (some ⟨g,0,none⟩) k c:=by
   rcases V.2 with⟨_,h0⟩|⟨g2,W,ao,rfl,_⟩
   .omega
   exact⟨g2,W,rfl⟩
  obtain⟨g',a3,rfl⟩:=hv;obtain⟨g,c,ae,h1,h2,h3,J⟩:=Blk.ofOwns V (by simp);rw[Nat.mul_one] at J;simp only[Value.slice.injEq,Qkx,Qkz,and_true,true_and] at ae;obtain⟨rfl,rfl⟩:=ae;exact⟨g',a3,G,C,rfl,h3,h1,h2,J.congr (λj a=>by simp[a]),A,K,H⟩
 obtain⟨b,o,rfl,hb,z0,a7⟩:=(rows.below H) k ai;have bu:=hr k ai;obtain⟨bv,bl,ints⟩:=a7;obtain⟨b1,o1,ha,bt,y0⟩:=ints 0 (by omega);rw[ha] at z0 ints;clear y0 ha;have HG:Hid _:=U;clear U;have m1:(0:Int)<=(k:Int):=by omega
 go_wp2_with(at_builtin;refine wpList_append_own _ rfl (.tmp 12) (.tmp 16) 23 rfl wr.heap.size 3 i1 (.int .i64 0) 1 8 underlying23 a a1 a6 ax rfl (by decide) _ _ _ rfl (World.ownsRow_made wr #[] 0 nlr (Qxz _) rfl) ⟨b1,o1,none⟩ (d k).n (d k).c ((List.range (d k).n).map λj=>Value.int .i64 ((d k).z j)) rfl ?qc1 ?qc2 ?qc3 ?qc4 ?qc5 ?qc6 ?_)
 case qc1=>simp
 case qc2 =>
  intro j u a;have af:j<(d k).n:=by
   have:=(List.getElem?_eq_some_iff.1 a).1
   simpa using this
  obtain⟨b',o',he,au,ac⟩:=ints j af;simp only[Qkx,Qkz,and_true] at he;obtain⟨rfl,rfl⟩:=he;rw[Go.WideShapes.add_plain];rw[((Below.refl wr.heap.size wr).alloc nlr _).cell (p:=⟨b1,o1+j,none⟩) au,ac];simp[af] at a;rw[a]
 case qc3=>intro u Y;obtain⟨x,_,rfl⟩:=List.mem_map.1 Y;rfl
 case qc4=>unfold maxLen;omega
 case qc5=>omega
 case qc6=>simp
 intro v' Q S D P;obtain⟨g,c',rfl,h1,h2,h3,J⟩:=Blk.ofOwns S P;rw[Nat.mul_one] at J;have l:Below wr.heap.size wr Q:=((Below.refl _ wr).alloc nlr _).grown D (by simp) (by intro k hk;simp[Value.ownBlock] at hk;omega);have h5:Blk Q g 3 (d k).n (λj => .int .i64 ((d k).z j)):=J.congr (λj a=>by simp[a]);clear S D P ints z0 J;obtain⟨G,C,V,A,K⟩:=HG.out;have E:Q.ownsRow w.heap.size 23 1 u3 k ((List.range k).map λi=>Value.slice (some ⟨G i,0,none⟩) (d i).n (C i)):=V.kept (row:=none) ⟨l.os,l.tape,l.output,l.size,λj a _=>l.block j a⟩ (by cases h:u3.ownBlock<;>simp);have HR:Hid _:=And.intro A K;clear V A K HG;go_wp2_with(at_builtin;refine wpList_append_own _ rfl (.tmp 11) (.tmp 18) 26 rfl w.heap.size 23 i0 (.slice none 0 0) 1 24 underlying26 hi a8 be aw rfl (by decide) _ _ _ rfl (E.alloc _) ⟨Q.heap.size,0,none⟩ 1 1 [.slice (some ⟨g,0,none⟩) (d k).n c'] rfl rfl ?c1 ?c2 ?c3 ?c4 ?c5 ?_)
 case c1 =>
  intro j u a
  match j,a with
  | 0,a=>simp at a;subst a;simp[Addr.add]
 case c2=>intro u Y;simp at Y;subst Y;rfl
 case c3=>unfold maxLen;omega
 case c4=>omega
 case c5=>have:=H.size;have:=l.size;simp;omega
 intro v2 w2 m t ad;have B:=H.trans (l.mono H.size);have M:=E.lt;have a5:Below w.heap.size w w2:=(B.alloc (by have:=B.size;omega) _).grown t (by have:=B.size;simp;omega) (λq L=>(M q L).1);have y:∀q f n',Blk Q q 3 n' f->Blk w2 q 3 n' f:=λq f n' hb=>by
  refine(hb.alloc _).grown t ?_;intro L;rcases E.2 with⟨rfl,_⟩|⟨g2,W,ao,rfl,_,ak,bj⟩
  .simp[Value.ownBlock] at L
  simp only[Value.ownBlock,Qkx] at L;subst L;obtain⟨c3,bg,_⟩:=hb;rw[bg] at ak;cases ak
 have KN:=y _ _ _ h5;have HK:Hid _:=And.intro m (And.intro KN y);clear m t ad KN y E h5 M;go_wp2_with fail;go_roundw
 case measure=>simp[intOf];omega
 obtain⟨m,KN,y⟩:=HK.out;obtain⟨A,K⟩:=HR.out;refine⟨k+1,by omega,by go_num,⟨λi=>if i=k then g else G i,λi=>if i=k then c' else C i,?_,?_,?_⟩,a5⟩
 .have e:(List.range (k+1)).map (λi=>Value.slice (some ⟨if i=k then g else G i,0,none⟩) (d i).n (if i=k then c' else C i))=((List.range k).map λi=>Value.slice (some ⟨G i,0,none⟩) (d i).n (C i))++[.slice (some ⟨g,0,none⟩) (d k).n c']:=by
   rw[List.range_succ,List.map_append]
   congr 1
   .exact List.map_congr_left λi hi=>by have:=List.mem_range.1 hi;simp[show ¬i=k by omega]
   simp
  rw[e];exact m
 .intro i hi;by_cases ah:i=k
  .subst ah;simp only[if_true];exact⟨by have:=H.size;omega,h1,h2,KN⟩
  simp only[ah,if_false];have F:i<k:=by omega
  exact⟨(A i F).1,(A i F).2.1,(A i F).2.2.1,y _ _ _ ((A i F).2.2.2.below l)⟩
 intro i j aj a;by_cases ag:j=k
 .subst ag;have:=(A i aj).2.2.2.lt;simp[show ¬i=j by omega];omega
 simp[ag,show ¬i=k by omega,K i j aj (by omega)]
def fw(z:Nat->Hd)(i j:Nat):Hd:=if j<i then z j else z (j+1)
def jp(n:Nat)(z:Nat->Hd)(o l b:Int):Nat:=((List.range n).find? (λi=>bp (z i) o l b)).getD 0
def Ck(n:Nat)(z:Nat->Hd)(o l b:Int):Int:=if gz n z=0 then(if keptV n z o l b=0 then 4 else 0) else gz n z
def Dc(n:Nat)(z:Nat->Hd)(o l b:Int):Int:=if gz n z=0 then keptV n z o l b else 0
def X8(n:Nat)(z:Nat->Hd)(o l b:Int)(s':Hs):Prop :=
 s'.n=(if Ck n z o l b=0 then n-1 else 0)/\∀j,j<s'.n->s'.z j=fw z (jp n z o l b) j
theorem Hb{k:Nat}{o l b:Int}(d:k<n)(h:∀j,j<k->bp (z j) o l b=false)(c:bp (z k) o l b=true):jp n z o l b=k:=by
 unfold jp;have e:List.range n=List.range k++(k :: (List.range (n-k-1)).map (λi=>k+1+i)):=by
  have:=@List.range_add k (n-k);rw[show k+(n-k)=n by omega] at this;rw[this,show n-k=(n-k-1)+1 by omega,List.range_succ_eq_map];simp[Function.comp_def];intro i hi;omega
 rw[e,List.find?_append];have a:(List.range k).find? (λi=>bp (z i) o l b)=none:=by
  rw[List.find?_eq_none];intro x hx;simp[h x (List.mem_range.1 hx)]
 rw[a,List.find?_cons];simp[c]
theorem Fe{x:Hd}{o l b:Int}(t:Hd)(a:t.o=o/\t.l=l/\t.b=b):bp x o l b=true↔mu x t=0:=by
 rw[R8];simp[bp,a,and_assoc]
theorem Fv(h:gz n z=0):ax n (db z)=false:=by
 cases a:ax n (db z)
 .rfl
 simp[gz,a] at h
theorem ab3{o l b:Int}{t:Hd}(g:ax n (db z)=false)(e:t.o=o/\t.l=l/\t.b=b)(f:Rp n z t i):
  ((decide (i<n)&&decide (mu (z i) t=0))=true->i<n/\keptV n z o l b=(z i).n/\jp n z o l b=i/\1<=(z i).n/\(z i).n<=200) /\
  ((decide (i<n)&&decide (mu (z i) t=0))=false->keptV n z o l b=0/\∀j,j<n->bp (z j) o l b=false):=by
 have lo:∀j,j<i->bp (z j) o l b=false:=λj d=>by
  cases c:bp (z j) o l b
  .rfl
  have:=(Fe t e).1 c;have:=f.lo j d;omega
 constructor
 .intro h;simp only[Xxx,decide_eq_true_eq] at h;have c:=(Fe (x:=z i) t e).2 h.2;have p:=(cz (cd g i h.1)).2.2.2;exact⟨h.1,m9 h.1 lo c,Hb h.1 lo c,p⟩
 intro h;have no:∀j,j<n->bp (z j) o l b=false:=λj d=>by
  rcases Nat.lt_trichotomy j i with a|a|a
  .exact lo j a
  .subst a;cases c:bp (z j) o l b
   .rfl
   have:=(Fe t e).1 c;simp[d,this] at h
  cases c:bp (z j) o l b
  .rfl
  have m:=(Fe t e).1 c;have k:=Qv g i j a d;have q:=f.hi i nlr (by omega);rw[R8] at m;rw[O1] at k;have r:mu (z i) t<0:=by rw[O1];omega
  omega
 exact⟨kw no,no⟩
theorem uz(z:Nat->Hd)(p:Nat):∀q,ay (p+q) z=ay p z++ay q (λj=>z (p+j))
 | 0=>by simp[ay]
 | q+1=>by
  rw[<-Nat.add_assoc,tw,uz z p q,tw,List.append_assoc]
theorem vk(n:Nat)(z:Nat->Hd)(i:Nat)(hi:i<n):ay (n-1) (fw z i)=ay i z++ay (n-(i+1)) (λj=>z (i+1+j)):=by
 rw[show n-1=i+(n-(i+1)) by omega,uz];rw[ot (n:=i) (z:=fw z i) (z':=z) λj a=>by simp[fw,a]];rw[ot (n:=n-(i+1)) (z:=λj=>fw z i (i+j)) (z':=λj=>z (i+1+j)) λj a=>by show fw z i (i+j)=_;unfold fw;rw[if_neg (by omega),show i+j+1=i+1+j by omega]]
theorem jj.cut{a:Addr}(h:jj w (some a) n z)(k:Nat)(m:k<=n)(q:n<=c):jj w (some (if c=k then a else a.add (k*4))) (n-k) (λj=>z (k+j)):=by
 intro i hi;obtain⟨b,o,d,e,g,f,p,l⟩:=h (k+i) (by omega);simp only[Qkx] at d;subst d;refine⟨b,o+k*4,?_,e,?_,?_,?_,?_⟩
 .rw[if_neg (by omega),Go.WideShapes.add_plain]
 all_goals(rw[show o+k*4+i*4=o+(k+i)*4 by omega];assumption)
theorem Tw(s:Hs)(o l b:Int)(w:World)(hs:s.At w):
  Calls prog 100 #[s.val,.int .i64 o,.int .i64 l,.int .i64 b] w λe G=>∃H:Hs,e = .returned (.tuple #[H.val,.int .i64 (Dc s.n s.z o l b),.int .i64 (Ck s.n s.z o l b)])/\cw w.heap.size 61 G H/\X8 s.n s.z o l b H/\Below w.heap.size w G:=by
 have HS:=hs;obtain⟨a,n,c,z⟩:=s;obtain⟨hn,hc,hz⟩:=hs;dsimp only at hn hc hz ⊢;have ak:=hc;unfold maxLen at hc;simp only[Hs.val];have K:∀G,cw w.heap.size 61 G ⟨none,0,0,z⟩:=λG=>cw.nil _ _ _ _;have NA:=hid K;clear K;go_enter func100,ntmps100;go_wp2_with fail;refine(vd ⟨a,n,c,z⟩ w HS).mono ?_;rintro e w1 ⟨rfl,J⟩;dsimp only;by_cases L:gz n z=0;rotate_left
 .have m:Hid (Dc n z o l b=0/\Ck n z o l b=gz n z):=by show _/\_;simp[Dc,Ck,L]
  go_wp2_with fail
  go_ret3
  exact⟨⟨none,0,0,z⟩,by rw[m.out.1,m.out.2];rfl,NA.out _,⟨by rw[m.out.2,if_neg L],λj q=>absurd q (Qzq _)⟩,J⟩
 have hr:=Fv L;have ax:=yf hr;go_wp2_with fail;refine(M4 ⟨a,n,c,z⟩ ⟨o,l,b,0⟩ w1 (HS.below J) hr).mono ?_;rintro e r ⟨i,rfl,X,al⟩;dsimp only at X ⊢;have y:=J.trans (al.mono J.size);obtain⟨fy,fn⟩:=ab3 (o:=o) (l:=l) (b:=b) hr ⟨rfl,rfl,rfl⟩ X;have a0:=X.le;have Y:=HS.below y;clear X hz;cases hf:(decide (i<n)&&decide (mu (z i) ⟨o,l,b,0⟩=0))
 .obtain⟨V,_⟩:=fn hf;have m:Hid (Dc n z o l b=0/\Ck n z o l b=4):=by show _/\_;simp[Dc,Ck,L,V]
  clear fy fn V;go_wp2_with fail
  go_ret3
  exact⟨⟨none,0,0,z⟩,by rw[m.out.1,m.out.2];rfl,NA.out _,⟨by rw[m.out.2];rfl,λj q=>absurd q (Qzq _)⟩,y⟩
 obtain⟨S,V,kI,k1,k2⟩:=fy hf;have m:Hid (Dc n z o l b=(z i).n/\Ck n z o l b=0/\jp n z o l b=i):=by
  show _/\_/\_;refine⟨by simp[Dc,L,V],?_,kI⟩;unfold Ck;rw[if_pos L,if_neg (by omega)]
 obtain⟨f,g,ha,hb,z0,z1,z2,z3⟩:=Y.hds i S;dsimp only at ha z0 z1 z2 z3;subst ha;have r3:=Qqq z3;have m1:(0:Int)<=(i:Int):=by omega
 have m2:(i:Int)<(n:Int):=by omega
 have m3:(i:Int)+1<=(n:Int):=by omega
 have m4:(n:Int)<=(c:Int):=by omega
 clear fy fn V kI z0 z1 z2;go_wp2_with fail;refine o8 (λG=>∃p:Regrown,G=grow (redrawn r p.d) p.os)
  ([0,1,2,3,4,5,6,9,10,11,12,13].map (λk=>(true,k))++[(false,7),(false,8),(true,14),(true,15),(false,16)]) (by kernel_rfl) (by kernel_rfl) (by kernel_rfl) (by kernel_rfl) (Qqx (brf.drew)) ?_
 refine am 0 rfl rfl ?_
 go_big_quiet_step(fail)
 refine Qqz ?_;refine am 1 rfl rfl ?_
 go_big_quiet_step(fail)
 refine Qqz ?_;refine am 2 rfl rfl ?_
 go_big_quiet_step(fail)
 refine Qqz ?_;refine am 3 rfl rfl ?_
 go_big_quiet_step(fail)
 refine Qqz ?_;refine am 4 rfl rfl ?_
 go_big_quiet_step(fail)
 refine Qqz ?_;refine am 5 rfl rfl ?_
 go_big_quiet_step(fail)
 refine Qqz ?_;refine am 6 rfl rfl ?_
 go_big_quiet_step(fail)
 refine Qqz ?_;refine am 9 rfl rfl ?_
 go_big_quiet_step(fail)
 refine Qqz ?_;refine am 10 rfl rfl ?_
 go_big_quiet_step(fail)
 refine Qqz ?_;refine am 11 rfl rfl ?_
 go_big_quiet_step(fail)
 refine Qqz ?_;refine am 12 rfl rfl ?_
 go_big_quiet_step(fail)
 refine Qqz ?_;refine am 13 rfl rfl ?_
 go_big_quiet_step(fail)
 refine Qqz ?_;refine da 7 (by decide) ?_;simp only[Qyq,Xqq,Qyx,Qyz];go_wp2_with fail
 .have aa:c=i+1:=by assumption
  have P:Hs.At r ⟨some ⟨f,g,none⟩,i,i+1,z⟩:=⟨by simp,by show i+1<=maxLen;unfold maxLen;omega,λj q=>Y.hds j (by have:j<i:=q;show j<n;omega),λh=>by cases h⟩;have U:Hs.At r ⟨some ⟨f,g,none⟩,n-(i+1),0,λj=>z (i+1+j)⟩:=⟨by simp;omega,Qxz _,λj q=>by have:j<n-(i+1):=q;omega,λh=>by cases h⟩;have D:=qa2 P U;clear P U;have x:Below r.heap.size r (r.alloc (.cells #[.slice (some ⟨f,g,none⟩) i (i+1),.slice (some ⟨f,g,none⟩) (n-(i+1)) (0)] 28)).drew:=(brf.alloc nlr _).drew;refine⟨Qqx x,?_⟩;refine da 8 (by decide) ?_;simp only[Qyq,Xqq,Qyx,Qyz];go_wp2_with fail;refine(Gv 2 r.heap.size 2 (λk=>if k=0 then ⟨some ⟨f,g,none⟩,i,i+1,z⟩ else ⟨some ⟨f,g,none⟩,n-(i+1),0,λj=>z (i+1+j)⟩) _ (by omega) nlr (by unfold maxLen;omega) ?_ ?_ ?_).mono ?_
  .refine Blk.below (Blk.congr (Blk.mk' rfl rfl) (λj q => ?_)) (brf.drew);have T:j=0\/j=1:=by have:j<2:=q;omega
   rcases T with rfl|rfl<;>rfl
  .intro k hk;have A:k=0\/k=1:=by omega
   rcases A with rfl|rfl
   .exact D.out.1.below x
   exact D.out.2.below x
  .intro k hk;have A:k=0\/k=1:=by omega
   rcases A with rfl|rfl
   .simp;omega
   simp;omega
  rintro e w3 ⟨v,rfl,t,M⟩;have u:w3.ownsRow (r.alloc (.cells #[.slice (some ⟨f,g,none⟩) i (i+1),.slice (some ⟨f,g,none⟩) (n-(i+1)) (0)] 28)).drew.heap.size 61 4 v (n-1) (ay (n-1) (fw z i)):=by
   have e1:vg (λk=>if k=0 then(⟨some ⟨f,g,none⟩,i,i+1,z⟩:Hs) else ⟨some ⟨f,g,none⟩,n-(i+1),0,λj=>z (i+1+j)⟩) 2=n-1:=by simp[vg];omega
   have e2:C2 (λk=>if k=0 then(⟨some ⟨f,g,none⟩,i,i+1,z⟩:Hs) else ⟨some ⟨f,g,none⟩,n-(i+1),0,λj=>z (i+1+j)⟩) 2=ay (n-1) (fw z i):=by rw[vk n z i S];simp[C2]
   rw[e1,e2] at t;exact t
  obtain⟨H,rfl,E,W,Q⟩:=cw.ofRow u (Qzx y.size x.size);have B:=x.trans (M.mono x.size);have F:=qa3 E W Q;clear t u E W Q;simp only[Hs.val];go_wp2_with fail;refine⟨Qqx B,?_⟩;refine am 14 rfl rfl ?_
  go_big_quiet_step(fail)
  refine Qqz ?_;refine am 15 rfl rfl ?_
  go_big_quiet_step(fail)
  refine Qqz ?_;refine da 16 (by decide) ?_;simp only[Qyq,Xqq,Qyx,Qyz];go_wp2_with fail;refine⟨Qqx B,?_⟩;refine NoPanic.normal ?_;go_wp2_with fail
  go_ret3
  refine⟨H,by rw[m.out.1,m.out.2.1];rfl,F.out.1,⟨by rw[m.out.2.1];exact F.out.2.1,λj q=>by rw[m.out.2.2,F.out.2.2]⟩,y.trans (B.mono y.size)⟩
 have aa:¬c=i+1:=by assumption
 have P:Hs.At r ⟨some ⟨f,g,none⟩,i,c,z⟩:=⟨by show i<=c;omega,ak,λj q=>Y.hds j (by have:j<i:=q;show j<n;omega),λh=>by cases h⟩;have U:Hs.At r ⟨some ⟨f,g+(i+1)*4,none⟩,n-(i+1),c-(i+1),λj=>z (i+1+j)⟩:=⟨by show n-(i+1)<=c-(i+1);omega,by show c-(i+1)<=maxLen;omega,by
  have:=Y.hds.cut (c:=c) (i+1) (by show i+1<=n;omega) hn;rw[if_neg aa,Go.WideShapes.add_plain] at this;exact this,λh=>by cases h⟩
 have D:=qa2 P U;clear P U;have x:Below r.heap.size r (r.alloc (.cells #[.slice (some ⟨f,g,none⟩) i (c),.slice (some ⟨f,g+(i+1)*4,none⟩) (n-(i+1)) (c-(i+1))] 28)).drew:=(brf.alloc nlr _).drew;refine⟨Qqx x,?_⟩;refine da 8 (by decide) ?_;simp only[Qyq,Xqq,Qyx,Qyz];go_wp2_with fail;refine(Gv 2 r.heap.size 2 (λk=>if k=0 then ⟨some ⟨f,g,none⟩,i,c,z⟩ else ⟨some ⟨f,g+(i+1)*4,none⟩,n-(i+1),c-(i+1),λj=>z (i+1+j)⟩) _ (by omega) nlr (by unfold maxLen;omega) ?_ ?_ ?_).mono ?_
 .refine Blk.below (Blk.congr (Blk.mk' rfl rfl) (λj q => ?_)) (brf.drew);have T:j=0\/j=1:=by have:j<2:=q;omega
  rcases T with rfl|rfl<;>rfl
 .intro k hk;have A:k=0\/k=1:=by omega
  rcases A with rfl|rfl
  .exact D.out.1.below x
  exact D.out.2.below x
 .intro k hk;have A:k=0\/k=1:=by omega
  rcases A with rfl|rfl
  .simp;omega
  simp;omega
 rintro e w3 ⟨v,rfl,t,M⟩;have u:w3.ownsRow (r.alloc (.cells #[.slice (some ⟨f,g,none⟩) i (c),.slice (some ⟨f,g+(i+1)*4,none⟩) (n-(i+1)) (c-(i+1))] 28)).drew.heap.size 61 4 v (n-1) (ay (n-1) (fw z i)):=by
  have e1:vg (λk=>if k=0 then(⟨some ⟨f,g,none⟩,i,c,z⟩:Hs) else ⟨some ⟨f,g+(i+1)*4,none⟩,n-(i+1),c-(i+1),λj=>z (i+1+j)⟩) 2=n-1:=by simp[vg];omega
  have e2:C2 (λk=>if k=0 then(⟨some ⟨f,g,none⟩,i,c,z⟩:Hs) else ⟨some ⟨f,g+(i+1)*4,none⟩,n-(i+1),c-(i+1),λj=>z (i+1+j)⟩) 2=ay (n-1) (fw z i):=by rw[vk n z i S];simp[C2]
  rw[e1,e2] at t;exact t
 obtain⟨H,rfl,E,W,Q⟩:=cw.ofRow u (Qzx y.size x.size);have B:=x.trans (M.mono x.size);have F:=qa3 E W Q;clear t u E W Q;simp only[Hs.val];go_wp2_with fail;refine⟨Qqx B,?_⟩;refine am 14 rfl rfl ?_
 go_big_quiet_step(fail)
 refine Qqz ?_;refine am 15 rfl rfl ?_
 go_big_quiet_step(fail)
 refine Qqz ?_;refine da 16 (by decide) ?_;simp only[Qyq,Xqq,Qyx,Qyz];go_wp2_with fail;refine⟨Qqx B,?_⟩;refine NoPanic.normal ?_;go_wp2_with fail
 go_ret3
 refine⟨H,by rw[m.out.1,m.out.2.1];rfl,F.out.1,⟨by rw[m.out.2.1];exact F.out.2.1,λj q=>by rw[m.out.2.2,F.out.2.2]⟩,y.trans (B.mono y.size)⟩
def jl(n:Nat)(z:Nat->Hd)(h:Hd):Nat:=((List.range n).find? (λi=>decide (0<=mu (z i) h))).getD n
def addE(n:Nat)(z:Nat->Hd)(h:Hd):Int:=if gz n z=0 then(if ie h then(if 200<keptV n z h.o h.l h.b+h.n then 3 else 0) else 1) else gz n z
def mn(z:Nat->Hd)(i:Nat)(h:Hd)(j:Nat):Hd:=if j<i then z j else if j=i then h else z (j-1)
def sp(z:Nat->Hd)(i:Nat)(h:Hd)(j:Nat):Hd:=if j=i then h else z j
def zj(n:Nat)(z:Nat->Hd)(h:Hd):Nat->Hd:=if keptV n z h.o h.l h.b=0 then mn z (jl n z h) h else sp z (jl n z h) ⟨h.o,h.l,h.b,keptV n z h.o h.l h.b+h.n⟩
def qp(n:Nat)(z:Nat->Hd)(h:Hd):Nat:=if keptV n z h.o h.l h.b=0 then n+1 else n
def Eo(n:Nat)(z:Nat->Hd)(h:Hd)(s':Hs):Prop :=
 s'.n=(if addE n z h=0 then qp n z h else 0)/\∀j,j<s'.n->s'.z j=zj n z h j
theorem Ps(a:Rp n z h i):jl n z h=i:=by
 unfold jl;by_cases hi:i<n;rotate_left
 .have c:i=n:=by have:=a.le;omega
  subst c;have b:(List.range i).find? (λq=>decide (0<=mu (z q) h))=none:=by
   rw[List.find?_eq_none];intro x hx;have:=a.lo x (List.mem_range.1 hx);simp;omega
  rw[b]
  rfl
 have e:List.range n=List.range i++(i :: (List.range (n-i-1)).map (λq=>i+1+q)):=by
  have:=@List.range_add i (n-i);rw[show i+(n-i)=n by omega] at this;rw[this,show n-i=(n-i-1)+1 by omega,List.range_succ_eq_map];simp[Function.comp_def];intro q d;omega
 rw[e,List.find?_append];have b:(List.range i).find? (λq=>decide (0<=mu (z q) h))=none:=by
  rw[List.find?_eq_none];intro x hx;have:=a.lo x (List.mem_range.1 hx);simp;omega
 rw[b,List.find?_cons];have:=a.hi i nlr hi;simp[this]
theorem Jh(n:Nat)(z:Nat->Hd)(i:Nat)(h:Hd)(hi:i<=n):ay (n+1) (mn z i h)=ay i z++ay 1 (λ_=>h)++ay (n-i) (λj=>z (i+j)):=by
 rw[show n+1=(i+1)+(n-i) by omega,uz,uz (mn z i h) i 1]
 congr 1
 .congr 1
  .exact ot λj a=>by unfold mn;rw[if_pos a]
  exact ot λj a=>by
   have:j=0:=by omega
   subst this;simp[mn]
 exact ot λj a=>by
  show mn z i h (i+1+j)=_;unfold mn;rw[if_neg (by omega),if_neg (by omega),show i+1+j-1=i+j by omega]
theorem P7(n:Nat)(z:Nat->Hd)(i:Nat)(h:Hd)(hi:i<n):ay n (sp z i h)=ay i z++ay 1 (λ_=>h)++ay (n-(i+1)) (λj=>z (i+1+j)):=by
 rw[show ay n (sp z i h)=ay ((i+1)+(n-(i+1))) (sp z i h) by rw[show(i+1)+(n-(i+1))=n by omega],uz,uz (sp z i h) i 1]
 congr 1
 .congr 1
  .exact ot λj a=>by unfold sp;rw[if_neg (by omega)]
  exact ot λj a=>by
   have:j=0:=by omega
   subst this;simp[sp]
 exact ot λj a=>by
  show sp z i h (i+1+j)=_;unfold sp;rw[if_neg (by omega)]
theorem Hs.one(a:Blk w g e 4 (λj=>(#[.int .i64 h.o,.int .i64 h.l,.int .i64 h.b,.int .i64 h.n]:Array Value).getD j default)):Hs.At w ⟨some ⟨g,0,none⟩,1,1,λ_=>h⟩:=by
 refine⟨Nat.le_refl _,by show 1<=maxLen;unfold maxLen;omega,λi hi => ?_,λh=>by cases h⟩;have c:i=0:=by have:i<1:=hi;omega
 subst c;exact⟨g,0,rfl,a.lt,a.k 0,a.k 1,a.k 2,a.k 3⟩
theorem F9(s0 d:Hs)(h:Hd)(w:World)(m:Nat)(f:Nat->Hd)(D:s0.At w)(B:d.At w)(n0:s0.n<=100)(n2:d.n<=100)(G:s0.n+1+d.n=m)(y:ay s0.n s0.z++(dc h++ay d.n d.z)=ay m f):
  Calls prog 147 #[.slice (some ⟨w.heap.size+1,0,none⟩) 3 3] ((w.alloc (.cells #[.int .i64 h.o,.int .i64 h.l,.int .i64 h.b,.int .i64 h.n] 61)).alloc (.cells #[.slice s0.a s0.n s0.c,.slice (some ⟨w.heap.size,0,none⟩) 1 1,.slice d.a d.n d.c] 28)).drew λe s =>
   ∃g:Hs,e = .returned g.val/\cw w.heap.size 61 s g/\g.n=m/\g.z=f/\Below w.heap.size w s:=by
 have i:Below w.heap.size w ((w.alloc (.cells #[.int .i64 h.o,.int .i64 h.l,.int .i64 h.b,.int .i64 h.n] 61)).alloc (.cells #[.slice s0.a s0.n s0.c,.slice (some ⟨w.heap.size,0,none⟩) 1 1,.slice d.a d.n d.c] 28)).drew:=((brf.alloc nlr _).alloc (by simp) _).drew;refine(Gv 3 (w.heap.size+1) 3 (λk=>if k=0 then s0 else if k=1 then ⟨some ⟨w.heap.size,0,none⟩,1,1,λ_=>h⟩ else d) _ (by omega) nlr (by unfold maxLen;omega) ?_ ?_ ?_).mono ?_
 .refine Blk.below (Blk.congr (Blk.mk' (by simp) rfl) (λj x => ?_)) (brf.drew);have t:j=0\/j=1\/j=2:=by have:j<3:=x;omega
  rcases t with rfl|rfl|rfl<;>rfl
 .intro k E;have q:k=0\/k=1\/k=2:=by omega
  rcases q with rfl|rfl|rfl
  .exact D.below i
  .exact Hs.one (Blk.below (Blk.alloc (Blk.mk' rfl rfl) _) (brf.drew))
  exact B.below i
 .intro k E;have q:k=0\/k=1\/k=2:=by omega
  rcases q with rfl|rfl|rfl
  .exact n0
  .show 1<=100;omega
  exact n2
 rintro e H ⟨v,rfl,p,r⟩;have c1:vg (λk=>if k=0 then s0 else if k=1 then(⟨some ⟨w.heap.size,0,none⟩,1,1,λ_=>h⟩:Hs) else d) 3=m:=by simp[vg];omega
 have c2:C2 (λk=>if k=0 then s0 else if k=1 then(⟨some ⟨w.heap.size,0,none⟩,1,1,λ_=>h⟩:Hs) else d) 3=ay m f:=by rw[<-y];simp[C2,ay]
 rw[c1,c2] at p;obtain⟨g,rfl,u,F,A⟩:=cw.ofRow p i.size;exact⟨g,rfl,u,F,A,i.trans (r.mono i.size)⟩
theorem Vh(s:Hs)(h:Hd)(w:World)(hs:s.At w):
  Calls prog 145 #[s.val,h.val] w λe y=>∃G:Hs,e = .returned (.tuple #[G.val,.int .i64 (addE s.n s.z h)])/\cw w.heap.size 61 y G/\Eo s.n s.z h G/\Below w.heap.size w y:=by
 have HS:=hs;obtain⟨a,n,c,z⟩:=s;obtain⟨hn,hc,hz,ak⟩:=hs;dsimp only at hn hc hz ak ⊢;have av:=hc;unfold maxLen at hc;simp only[Hs.val,Hd.val];have NA:Hid (∀y,cw w.heap.size 61 y ⟨none,0,0,z⟩):=λy=>cw.nil _ _ _ _;have ar:Below w.heap.size w (w.alloc (.cells #[.int .i64 h.o,.int .i64 h.l,.int .i64 h.b,.int .i64 h.n] 61)):=brf.alloc nlr _;have x:Below (w.heap.size+1) (w.alloc (.cells #[.int .i64 h.o,.int .i64 h.l,.int .i64 h.b,.int .i64 h.n] 61)) (w.alloc (.cells #[.int .i64 h.o,.int .i64 h.l,.int .i64 h.b,.int .i64 h.n] 61)):=Below.refl _ _;have hT:Hid (∀M,Below (w.heap.size+1) (w.alloc (.cells #[.int .i64 h.o,.int .i64 h.l,.int .i64 h.b,.int .i64 h.n] 61)) M->(M.cell? ⟨w.heap.size,0,none⟩=some (.int .i64 h.o)/\M.cell? ⟨w.heap.size,1,none⟩=some (.int .i64 h.l)/\M.cell? ⟨w.heap.size,2,none⟩=some (.int .i64 h.b)/\M.cell? ⟨w.heap.size,3,none⟩=some (.int .i64 h.n))/\M.frozen? ⟨w.heap.size,3,none⟩=false/\w.heap.size<M.heap.size):=λM hb =>
  ⟨⟨(hb.cell (p:=⟨w.heap.size,0,none⟩) (by simp)).trans (by simp),(hb.cell (p:=⟨w.heap.size,1,none⟩) (by simp)).trans (by simp),(hb.cell (p:=⟨w.heap.size,2,none⟩) (by simp)).trans (by simp),(hb.cell (p:=⟨w.heap.size,3,none⟩) (by simp)).trans (by simp)⟩,(hb.frozen (p:=⟨w.heap.size,3,none⟩) (by simp)).trans (by simp),by have:=hb.size;simp at this;omega⟩
 go_enter func145,ntmps145;go_wp2_with fail;refine(vd ⟨a,n,c,z⟩ _ (HS.below ar)).mono ?_;rintro e M ⟨rfl,L⟩;dsimp only;have f:=ar.trans (L.mono (by simp));have x:=x.trans (L.mono (by simp));obtain⟨⟨X,Y,V,W⟩,tf,T⟩:=hT.out M x;clear L hz;by_cases h0:gz n z=0;rotate_left
 .have q:Hid (addE n z h=gz n z):=by show addE n z h=_;simp[addE,h0]
  go_wp2_with fail
  go_ret2
  exact⟨⟨none,0,0,z⟩,by rw[q.out];rfl,NA.out _,⟨by rw[q.out,if_neg h0],λj v=>absurd v (Qzq _)⟩,f⟩
 have hr:=Fv h0;have bi:=yf hr;go_wp2_with fail;refine(tc h M).mono ?_;rintro e w2 ⟨rfl,L⟩;have f:=f.trans (L.mono f.size);have x:=x.trans (L.mono (by omega));clear X Y V W tf T L;obtain⟨⟨X,Y,V,W⟩,tf,T⟩:=hT.out w2 x;cases B:ie h
 .have q:Hid (addE n z h=1):=by show addE n z h=1;simp[addE,h0,B]
  go_wp2_with fail
  go_ret2
  exact⟨⟨none,0,0,z⟩,by rw[q.out];rfl,NA.out _,⟨by rw[q.out];rfl,λj v=>absurd v (Qzq _)⟩,f⟩
 have bt:=(cz B).2.2.2;go_wp2_with fail;refine(M4 ⟨a,n,c,z⟩ h w2 (HS.below f) hr).mono ?_;rintro e g ⟨i,rfl,hp,L⟩;dsimp only at hp ⊢;have f:=f.trans (L.mono f.size);have x:=x.trans (L.mono (by omega));clear X Y V W tf T L;obtain⟨⟨X,Y,V,W⟩,tf,T⟩:=hT.out g x;obtain⟨fy,fn⟩:=ab3 (o:=h.o) (l:=h.l) (b:=h.b) hr ⟨rfl,rfl,rfl⟩ hp;have ah:Hid (jl n z h=i):=Ps hp;have a3:=hp.le;have HZ:=HS.below f;clear hp;have m1:(0:Int)<=(i:Int):=by omega
 have m2:(i:Int)<=(n:Int):=by omega
 have m4:(n:Int)<=(c:Int):=by omega
 cases hf:(decide (i<n)&&decide (mu (z i) h=0));rotate_left
 .obtain⟨aj,K,kI,k1,k2⟩:=fy hf;obtain⟨H,J,ha,hb,z0,z1,z2,z3⟩:=HZ.hds i aj;dsimp only at ha z0 z1 z2 z3;subst ha;have m3:(i:Int)<(n:Int):=by omega
  have KV:=hid K;clear fy fn K kI z0 z1 z2;go_wp2_with fail
  go_region
  have F:∃m,(g.setCell ⟨w.heap.size,3,none⟩ (.int .i64 (h.n+(z i).n))).drew=m/\Below w.heap.size w m/\w.heap.size<m.heap.size/\(m.cell? ⟨w.heap.size,0,none⟩=some (.int .i64 h.o)/\m.cell? ⟨w.heap.size,1,none⟩=some (.int .i64 h.l)/\m.cell? ⟨w.heap.size,2,none⟩=some (.int .i64 h.b)/\m.cell? ⟨w.heap.size,3,none⟩=some (.int .i64 (h.n+(z i).n))):=by
   have bx:Blk g w.heap.size 61 4 (λj=>(#[.int .i64 h.o,.int .i64 h.l,.int .i64 h.b,.int .i64 h.n]:Array Value).getD j default):=(Blk.mk' (w:=w) rfl rfl).same (x.block w.heap.size (by omega));have U:=Blk.below (bx.set 3 (.int .i64 (h.n+(z i).n))) (brf.drew);refine⟨_,rfl,(f.setCell (p:=⟨w.heap.size,3,none⟩) nlr _).drew,U.lt,U.k 0,U.k 1,U.k 2,U.k 3⟩
  obtain⟨m,au,ax,bq,u0,u1,u2,u3⟩:=F;rw[au];clear au X Y V W tf z3 T;have ai:=HS.below ax;have f:=ax;cases af:decide (200<h.n+(z i).n);rotate_left
  .have ao:200<h.n+(z i).n:=by simpa using af
   have q:Hid (addE n z h=3):=by
    show addE n z h=3;have K:=KV.out;unfold addE;rw[if_pos h0,if_pos B,K,if_pos (by omega)]
   go_wp2_with fail
   go_ret2
   exact⟨⟨none,0,0,z⟩,by rw[q.out];rfl,NA.out _,⟨by rw[q.out];rfl,λj v=>absurd v (Qzq _)⟩,f⟩
  have ao:¬200<h.n+(z i).n:=by simpa using af
  have q:Hid (addE n z h=0/\qp n z h=n/\zj n z h=sp z i ⟨h.o,h.l,h.b,h.n+(z i).n⟩):=by
   show _/\_/\_;have K:=KV.out;have aw:¬keptV n z h.o h.l h.b=0:=by omega
   refine⟨?_,by simp[qp,aw],?_⟩
   .unfold addE;rw[if_pos h0,if_pos B,K,if_neg (by omega)]
   unfold zj;rw[if_neg aw,ah.out,K,Int.add_comm]
  have e0:=Qqq u0;have e1:=Qqq u1;have e2:=Qqq u2;have e3:=Qqq u3;by_cases ac:c=i+1
  .go_wp2_with fail;refine o8 (λy=>∃p:Regrown,y=grow (redrawn m p.d) p.os)
    ([0,1,2,3,5,6,7,8].map (λk=>(true,k))++[(false,4),(false,9),(false,10),(true,11),(false,12)]) (by kernel_rfl) (by kernel_rfl) (by kernel_rfl) (by kernel_rfl) (Qqx (brf.drew)) ?_
   refine am 0 rfl rfl ?_
   go_big_quiet_step(fail)
   refine Qqz ?_;refine am 1 rfl rfl ?_
   go_big_quiet_step(fail)
   refine Qqz ?_;refine am 2 rfl rfl ?_
   go_big_quiet_step(fail)
   refine Qqz ?_;refine am 3 rfl rfl ?_
   go_big_quiet_step(fail)
   refine Qqz ?_;refine am 5 rfl rfl ?_
   go_big_quiet_step(fail)
   refine Qqz ?_;refine am 6 rfl rfl ?_
   go_big_quiet_step(fail)
   refine Qqz ?_;refine am 7 rfl rfl ?_
   go_big_quiet_step(fail)
   refine Qqz ?_;refine am 8 rfl rfl ?_
   go_big_quiet_step(fail)
   refine Qqz ?_;refine da 4 (by decide) ?_;simp only[Qyq,Xqq,Qyx,Qyz];go_wp2_with fail;have Q:Hid (Hs.At m ⟨some ⟨H,J,none⟩,i,i+1,z⟩):=⟨by simp,by show i+1<=maxLen;unfold maxLen;omega,λj v=>ai.hds j (by have:j<i:=v;show j<n;omega),λh=>by cases h⟩;have S:Hid (Hs.At m ⟨some ⟨H,J,none⟩,n-(i+1),0,λj=>z (i+1+j)⟩):=⟨by show n-(i+1)<=0;omega,Qxz _,λj v=>by have:j<n-(i+1):=v;omega,λh=>by cases h⟩;have A:Below m.heap.size m (m.alloc (.cells #[.int .i64 h.o,.int .i64 h.l,.int .i64 h.b,.int .i64 (h.n+(z i).n)] 61)).drew:=(brf.alloc nlr _).drew;have P:Below m.heap.size m ((m.alloc (.cells #[.int .i64 h.o,.int .i64 h.l,.int .i64 h.b,.int .i64 (h.n+(z i).n)] 61)).alloc (.cells #[.slice (some ⟨H,J,none⟩) (i) (i+1),.slice (some ⟨m.heap.size,0,none⟩) 1 1,.slice (some ⟨H,J,none⟩) (n-(i+1)) (0)] 28)).drew:=((brf.alloc nlr _).alloc (by simp) _).drew;refine⟨Qqx A,?_⟩;refine da 9 (by decide) ?_;simp only[Qyq,Xqq,Qyx,Qyz];go_wp2_with fail;refine⟨Qqx P,?_⟩;refine da 10 (by decide) ?_;simp only[Qyq,Xqq,Qyx,Qyz];go_wp2_with fail;refine(F9 ⟨some ⟨H,J,none⟩,i,i+1,z⟩ ⟨some ⟨H,J,none⟩,n-(i+1),0,λj=>z (i+1+j)⟩ ⟨h.o,h.l,h.b,h.n+(z i).n⟩ m (n) (sp z i ⟨h.o,h.l,h.b,h.n+(z i).n⟩) Q.out S.out (by dsimp only;omega) (by dsimp only;omega) (by first|rfl|(dsimp only;omega)) (by rw[P7 _ _ _ _ aj];simp[ay])).mono ?_;rintro e w9 ⟨G,rfl,t,E,D,r⟩;have u:=qa3 (t.mono f.size) E D;clear t E D;simp only[Hs.val];go_wp2_with fail;refine⟨Qqx r,?_⟩;refine am 11 rfl rfl ?_
   go_big_quiet_step(fail)
   refine Qqz ?_;refine da 12 (by decide) ?_;simp only[Qyq,Xqq,Qyx,Qyz];go_wp2_with fail;refine⟨Qqx r,?_⟩;refine NoPanic.normal ?_;go_wp2_with fail
   go_ret2
   exact⟨G,by rw[q.out.1];rfl,u.out.1,⟨by rw[q.out.1,q.out.2.1];exact u.out.2.1,λj v=>by rw[q.out.2.2,u.out.2.2]⟩,f.trans (r.mono f.size)⟩
  go_wp2_with fail;refine o8 (λy=>∃p:Regrown,y=grow (redrawn m p.d) p.os)
   ([0,1,2,3,5,6,7,8].map (λk=>(true,k))++[(false,4),(false,9),(false,10),(true,11),(false,12)]) (by kernel_rfl) (by kernel_rfl) (by kernel_rfl) (by kernel_rfl) (Qqx (brf.drew)) ?_
  refine am 0 rfl rfl ?_
  go_big_quiet_step(fail)
  refine Qqz ?_;refine am 1 rfl rfl ?_
  go_big_quiet_step(fail)
  refine Qqz ?_;refine am 2 rfl rfl ?_
  go_big_quiet_step(fail)
  refine Qqz ?_;refine am 3 rfl rfl ?_
  go_big_quiet_step(fail)
  refine Qqz ?_;refine am 5 rfl rfl ?_
  go_big_quiet_step(fail)
  refine Qqz ?_;refine am 6 rfl rfl ?_
  go_big_quiet_step(fail)
  refine Qqz ?_;refine am 7 rfl rfl ?_
  go_big_quiet_step(fail)
  refine Qqz ?_;refine am 8 rfl rfl ?_
  go_big_quiet_step(fail)
  refine Qqz ?_;refine da 4 (by decide) ?_;simp only[Qyq,Xqq,Qyx,Qyz];go_wp2_with fail;have Q:Hid (Hs.At m ⟨some ⟨H,J,none⟩,i,c,z⟩):=⟨by show i<=c;omega,av,λj v=>ai.hds j (by have:j<i:=v;show j<n;omega),λh=>by cases h⟩;have S:Hid (Hs.At m ⟨some ⟨H,J+(i+1)*4,none⟩,n-(i+1),c-(i+1),λj=>z (i+1+j)⟩):=⟨by show n-(i+1)<=c-(i+1);omega,by show c-(i+1)<=maxLen;omega,by
   have:=ai.hds.cut (c:=c) (i+1) (by show i+1<=n;omega) hn;rw[if_neg ac,Go.WideShapes.add_plain] at this;exact this,λh=>by cases h⟩
  have A:Below m.heap.size m (m.alloc (.cells #[.int .i64 h.o,.int .i64 h.l,.int .i64 h.b,.int .i64 (h.n+(z i).n)] 61)).drew:=(brf.alloc nlr _).drew;have P:Below m.heap.size m ((m.alloc (.cells #[.int .i64 h.o,.int .i64 h.l,.int .i64 h.b,.int .i64 (h.n+(z i).n)] 61)).alloc (.cells #[.slice (some ⟨H,J,none⟩) (i) (c),.slice (some ⟨m.heap.size,0,none⟩) 1 1,.slice (some ⟨H,J+(i+1)*4,none⟩) (n-(i+1)) (c-(i+1))] 28)).drew:=((brf.alloc nlr _).alloc (by simp) _).drew;refine⟨Qqx A,?_⟩;refine da 9 (by decide) ?_;simp only[Qyq,Xqq,Qyx,Qyz];go_wp2_with fail;refine⟨Qqx P,?_⟩;refine da 10 (by decide) ?_;simp only[Qyq,Xqq,Qyx,Qyz];go_wp2_with fail;refine(F9 ⟨some ⟨H,J,none⟩,i,c,z⟩ ⟨some ⟨H,J+(i+1)*4,none⟩,n-(i+1),c-(i+1),λj=>z (i+1+j)⟩ ⟨h.o,h.l,h.b,h.n+(z i).n⟩ m (n) (sp z i ⟨h.o,h.l,h.b,h.n+(z i).n⟩) Q.out S.out (by dsimp only;omega) (by dsimp only;omega) (by first|rfl|(dsimp only;omega)) (by rw[P7 _ _ _ _ aj];simp[ay])).mono ?_;rintro e w9 ⟨G,rfl,t,E,D,r⟩;have u:=qa3 (t.mono f.size) E D;clear t E D;simp only[Hs.val];go_wp2_with fail;refine⟨Qqx r,?_⟩;refine am 11 rfl rfl ?_
  go_big_quiet_step(fail)
  refine Qqz ?_;refine da 12 (by decide) ?_;simp only[Qyq,Xqq,Qyx,Qyz];go_wp2_with fail;refine⟨Qqx r,?_⟩;refine NoPanic.normal ?_;go_wp2_with fail
  go_ret2
  exact⟨G,by rw[q.out.1];rfl,u.out.1,⟨by rw[q.out.1,q.out.2.1];exact u.out.2.1,λj v=>by rw[q.out.2.2,u.out.2.2]⟩,f.trans (r.mono f.size)⟩
 obtain⟨K,_⟩:=fn hf;have q:Hid (addE n z h=0/\qp n z h=n+1/\zj n z h=mn z i h):=by
  show _/\_/\_;refine⟨?_,by simp[qp,K],by simp[zj,K,ah.out]⟩;unfold addE;rw[if_pos h0,if_pos B,K,if_neg (by omega)]
 have e0:=Qqq X;have e1:=Qqq Y;have e2:=Qqq V;have e3:=Qqq W;clear fy fn K X Y V W tf;cases a with
 | none =>
  have bd:c=0:=ak rfl;have a7:n=0:=by omega
  have bc:i=0:=by omega
  subst bd a7 bc;go_wp2_with fail;refine o8 (λy=>∃p:Regrown,y=grow (redrawn g p.d) p.os)
   ([0,1,2,3,5,6,7].map (λk=>(true,k))++[(false,4),(false,8),(false,9),(true,10),(false,11)]) (by kernel_rfl) (by kernel_rfl) (by kernel_rfl) (by kernel_rfl) (Qqx (brf.drew)) ?_
  refine am 0 rfl rfl ?_
  go_big_quiet_step(fail)
  refine Qqz ?_;refine am 1 rfl rfl ?_
  go_big_quiet_step(fail)
  refine Qqz ?_;refine am 2 rfl rfl ?_
  go_big_quiet_step(fail)
  refine Qqz ?_;refine am 3 rfl rfl ?_
  go_big_quiet_step(fail)
  refine Qqz ?_;refine am 5 rfl rfl ?_
  go_big_quiet_step(fail)
  refine Qqz ?_;refine am 6 rfl rfl ?_
  go_big_quiet_step(fail)
  refine Qqz ?_;refine am 7 rfl rfl ?_
  go_big_quiet_step(fail)
  refine Qqz ?_;refine da 4 (by decide) ?_;simp only[Qyq,Xqq,Qyx,Qyz];go_wp2_with fail;have Q:Hid (Hs.At g ⟨none,0,0,z⟩):=(NA.out g).at;have S:Hid (Hs.At g ⟨none,0-0,0,λj=>z (0+j)⟩):=⟨Nat.le_refl _,Qxz _,λi hi=>absurd hi (Qzq _),λ_=>rfl⟩;have A:Below g.heap.size g (g.alloc (.cells #[.int .i64 h.o,.int .i64 h.l,.int .i64 h.b,.int .i64 h.n] 61)).drew:=(brf.alloc nlr _).drew;have P:Below g.heap.size g ((g.alloc (.cells #[.int .i64 h.o,.int .i64 h.l,.int .i64 h.b,.int .i64 h.n] 61)).alloc (.cells #[.slice (none) (0) (0),.slice (some ⟨g.heap.size,0,none⟩) 1 1,.slice (none) (0) (0)] 28)).drew:=((brf.alloc nlr _).alloc (by simp) _).drew;refine⟨Qqx A,?_⟩;refine da 8 (by decide) ?_;simp only[Qyq,Xqq,Qyx,Qyz];go_wp2_with fail;refine⟨Qqx P,?_⟩;refine da 9 (by decide) ?_;simp only[Qyq,Xqq,Qyx,Qyz];go_wp2_with fail;refine(F9 ⟨none,0,0,z⟩ ⟨none,0-0,0,λj=>z (0+j)⟩ h g (0+1) (mn z 0 h) Q.out S.out (by dsimp only;omega) (by dsimp only;omega) (by first|rfl|(dsimp only;omega)) (by rw[Jh _ _ _ _ (by omega)];simp[ay])).mono ?_;rintro e w9 ⟨G,rfl,t,E,D,r⟩;have u:=qa3 (t.mono f.size) E D;clear t E D;simp only[Hs.val];go_wp2_with fail;refine⟨Qqx r,?_⟩;refine am 10 rfl rfl ?_
  go_big_quiet_step(fail)
  refine Qqz ?_;refine da 11 (by decide) ?_;simp only[Qyq,Xqq,Qyx,Qyz];go_wp2_with fail;refine⟨Qqx r,?_⟩;refine NoPanic.normal ?_;go_wp2_with fail
  go_ret2
  exact⟨G,by rw[q.out.1];rfl,u.out.1,⟨by rw[q.out.1,q.out.2.1];exact u.out.2.1,λj v=>by rw[q.out.2.2,u.out.2.2]⟩,f.trans (r.mono f.size)⟩
 | some ad =>
  by_cases ac:c=i;rotate_left
  .go_wp2_with fail;refine o8 (λy=>∃p:Regrown,y=grow (redrawn g p.d) p.os)
    ([0,1,2,3,5,6,7].map (λk=>(true,k))++[(false,4),(false,8),(false,9),(true,10),(false,11)]) (by kernel_rfl) (by kernel_rfl) (by kernel_rfl) (by kernel_rfl) (Qqx (brf.drew)) ?_
   refine am 0 rfl rfl ?_
   go_big_quiet_step(fail)
   refine Qqz ?_;refine am 1 rfl rfl ?_
   go_big_quiet_step(fail)
   refine Qqz ?_;refine am 2 rfl rfl ?_
   go_big_quiet_step(fail)
   refine Qqz ?_;refine am 3 rfl rfl ?_
   go_big_quiet_step(fail)
   refine Qqz ?_;refine am 5 rfl rfl ?_
   go_big_quiet_step(fail)
   refine Qqz ?_;refine am 6 rfl rfl ?_
   go_big_quiet_step(fail)
   refine Qqz ?_;refine am 7 rfl rfl ?_
   go_big_quiet_step(fail)
   refine Qqz ?_;refine da 4 (by decide) ?_;simp only[Qyq,Xqq,Qyx,Qyz];go_wp2_with fail;have Q:Hid (Hs.At g ⟨some ad,i,c,z⟩):=⟨by show i<=c;omega,av,λj v=>HZ.hds j (by have:j<i:=v;show j<n;omega),λh=>by cases h⟩;have S:Hid (Hs.At g ⟨some (ad.add (i*4)),n-i,c-i,λj=>z (i+j)⟩):=⟨by show n-i<=c-i;omega,by show c-i<=maxLen;omega,by
    have:=HZ.hds.cut (c:=c) i a3 hn;rw[if_neg ac] at this;exact this,λh=>by cases h⟩
   have A:Below g.heap.size g (g.alloc (.cells #[.int .i64 h.o,.int .i64 h.l,.int .i64 h.b,.int .i64 h.n] 61)).drew:=(brf.alloc nlr _).drew;have P:Below g.heap.size g ((g.alloc (.cells #[.int .i64 h.o,.int .i64 h.l,.int .i64 h.b,.int .i64 h.n] 61)).alloc (.cells #[.slice (some ad) (i) (c),.slice (some ⟨g.heap.size,0,none⟩) 1 1,.slice (some (ad.add (i*4))) (n-i) (c-i)] 28)).drew:=((brf.alloc nlr _).alloc (by simp) _).drew;refine⟨Qqx A,?_⟩;refine da 8 (by decide) ?_;simp only[Qyq,Xqq,Qyx,Qyz];go_wp2_with fail;refine⟨Qqx P,?_⟩;refine da 9 (by decide) ?_;simp only[Qyq,Xqq,Qyx,Qyz];go_wp2_with fail;refine(F9 ⟨some ad,i,c,z⟩ ⟨some (ad.add (i*4)),n-i,c-i,λj=>z (i+j)⟩ h g (n+1) (mn z i h) Q.out S.out (by dsimp only;omega) (by dsimp only;omega) (by first|rfl|(dsimp only;omega)) (by rw[Jh _ _ _ _ (by omega)];simp[ay])).mono ?_;rintro e w9 ⟨G,rfl,t,E,D,r⟩;have u:=qa3 (t.mono f.size) E D;clear t E D;simp only[Hs.val];go_wp2_with fail;refine⟨Qqx r,?_⟩;refine am 10 rfl rfl ?_
   go_big_quiet_step(fail)
   refine Qqz ?_;refine da 11 (by decide) ?_;simp only[Qyq,Xqq,Qyx,Qyz];go_wp2_with fail;refine⟨Qqx r,?_⟩;refine NoPanic.normal ?_;go_wp2_with fail
   go_ret2
   exact⟨G,by rw[q.out.1];rfl,u.out.1,⟨by rw[q.out.1,q.out.2.1];exact u.out.2.1,λj v=>by rw[q.out.2.2,u.out.2.2]⟩,f.trans (r.mono f.size)⟩
  have ba:n=i:=by omega
  subst ba;subst ac;go_wp2_with fail;refine o8 (λy=>∃p:Regrown,y=grow (redrawn g p.d) p.os)
   ([0,1,2,3,5,6,7].map (λk=>(true,k))++[(false,4),(false,8),(false,9),(true,10),(false,11)]) (by kernel_rfl) (by kernel_rfl) (by kernel_rfl) (by kernel_rfl) (Qqx (brf.drew)) ?_
  refine am 0 rfl rfl ?_
  go_big_quiet_step(fail)
  refine Qqz ?_;refine am 1 rfl rfl ?_
  go_big_quiet_step(fail)
  refine Qqz ?_;refine am 2 rfl rfl ?_
  go_big_quiet_step(fail)
  refine Qqz ?_;refine am 3 rfl rfl ?_
  go_big_quiet_step(fail)
  refine Qqz ?_;refine am 5 rfl rfl ?_
  go_big_quiet_step(fail)
  refine Qqz ?_;refine am 6 rfl rfl ?_
  go_big_quiet_step(fail)
  refine Qqz ?_;refine am 7 rfl rfl ?_
  go_big_quiet_step(fail)
  refine Qqz ?_;refine da 4 (by decide) ?_;simp only[Qyq,Xqq,Qyx,Qyz];go_wp2_with fail;have Q:=hid HZ;have S:Hid (Hs.At g ⟨some ad,c-c,0,λj=>z (c+j)⟩):=⟨by simp,Qxz _,λi hi=>by have:i<c-c:=hi;omega,λh=>by cases h⟩;have A:Below g.heap.size g (g.alloc (.cells #[.int .i64 h.o,.int .i64 h.l,.int .i64 h.b,.int .i64 h.n] 61)).drew:=(brf.alloc nlr _).drew;have P:Below g.heap.size g ((g.alloc (.cells #[.int .i64 h.o,.int .i64 h.l,.int .i64 h.b,.int .i64 h.n] 61)).alloc (.cells #[.slice (some ad) (c) (c),.slice (some ⟨g.heap.size,0,none⟩) 1 1,.slice (some ad) (0) (0)] 28)).drew:=((brf.alloc nlr _).alloc (by simp) _).drew;refine⟨Qqx A,?_⟩;refine da 8 (by decide) ?_;simp only[Qyq,Xqq,Qyx,Qyz];go_wp2_with fail;refine⟨Qqx P,?_⟩;refine da 9 (by decide) ?_;simp only[Qyq,Xqq,Qyx,Qyz];go_wp2_with fail;refine(F9 ⟨some ad,c,c,z⟩ ⟨some ad,0,0,λj=>z (c+j)⟩ h g (c+1) (mn z c h) Q.out (by have:=S.out;rwa[Nat.sub_self] at this) (by dsimp only;omega) (by dsimp only;omega) (by first|rfl|(dsimp only;omega)) (by rw[Jh _ _ _ _ (by omega)];simp[ay])).mono ?_;rintro e w9 ⟨G,rfl,t,E,D,r⟩;have u:=qa3 (t.mono f.size) E D;clear t E D;simp only[Hs.val];go_wp2_with fail;refine⟨Qqx r,?_⟩;refine am 10 rfl rfl ?_
  go_big_quiet_step(fail)
  refine Qqz ?_;refine da 11 (by decide) ?_;simp only[Qyq,Xqq,Qyx,Qyz];go_wp2_with fail;refine⟨Qqx r,?_⟩;refine NoPanic.normal ?_;go_wp2_with fail
  go_ret2
  exact⟨G,by rw[q.out.1];rfl,u.out.1,⟨by rw[q.out.1,q.out.2.1];exact u.out.2.1,λj v=>by rw[q.out.2.2,u.out.2.2]⟩,f.trans (r.mono f.size)⟩
def Ce(x:Hd):Prop:=(0<=x.o/\x.o<=3)/\(0<=x.l/\x.l<=2)/\(0<=x.b/\x.b<=5)
theorem N9{x:Hd}(h:ie x=true):Ce x:=⟨(cz h).1,(cz h).2.1,(cz h).2.2.1⟩
theorem uf(x:Hd)(w:World)(h:Ce x):
  Calls prog 154 #[x.val] w λe a=>e = .returned (.int .i64 (ba x))/\Below w.heap.size w a:=by
 unfold Ce at h;unfold ba Hd.val;go_enter func154,ntmps154
 go_wp2
 go_ret;exact⟨rfl,brf.alloc nlr _⟩
theorem Cc(w:World)(x:Hd)(t:TypeId):∀j u,(dc x)[j]?=some u->(w.alloc (.cells #[.int .i64 x.o,.int .i64 x.l,.int .i64 x.b,.int .i64 x.n] t)).cell? ((⟨w.heap.size,0,none⟩:Addr).add j)=some u:=by
 intro j u a;rw[Go.WideShapes.add_plain];have c:j<4:=by
  have:=(List.getElem?_eq_some_iff.1 a).1
  simpa[dc] using this
 have e:Blk (w.alloc (.cells #[.int .i64 x.o,.int .i64 x.l,.int .i64 x.b,.int .i64 x.n] t)) w.heap.size t 4 (λj=>(#[.int .i64 x.o,.int .i64 x.l,.int .i64 x.b,.int .i64 x.n]:Array Value).getD j default):=Blk.mk' rfl rfl;rw[Nat.zero_add,e.cell c];have d:j=0\/j=1\/j=2\/j=3:=by omega
 rcases d with rfl|rfl|rfl|rfl<;>(simp[dc] at a;rw[<-a];rfl)
theorem Ao(x:Hd):∀u∈dc x,u.oneCell'=true:=by
 intro u a;simp[dc] at a;rcases a with rfl|rfl|rfl|rfl<;>rfl
theorem j6{b:World}{base:Nat}{size:Nat}(h:w.ownsRow base e size v n xs)(a:Below w.heap.size w b):b.ownsRow base e size v n xs :=
 h.kept (row:=none) ⟨a.os,a.tape,a.output,a.size,λj c _=>a.block j c⟩ (by cases h:v.ownBlock<;>simp)
theorem qe(h:∃p:Regrown,a=grow (redrawn w p.d) p.os):Below w.heap.size w a:=by
 obtain⟨p,rfl⟩:=h;exact Qxx _ _ _
def wA(h:Hd)(d:Bool)(x:Hd):Bool := !d&&decide (ba h<=ba x)
def kf(h:Hd)(z:Nat->Hd):Nat->List Hd × Bool
 | 0=>([],h.n==0)
 | k+1=>((kf h z k).1++(if wA h (kf h z k).2 (z k) then [h] else [])++(if ba (z k) !=ba h then [z k] else []),(kf h z k).2||wA h (kf h z k).2 (z k))
def Mn(h:Hd)(n:Nat)(z:Nat->Hd):List Hd:=if (kf h z n).2 then(kf h z n).1 else(kf h z n).1++[h]
def Ke(l:List Hd):List Value:=l.flatMap dc
theorem yq(l:List Hd)(x:Hd):Ke (l++[x])=Ke l++dc x:=by simp[Ke]
theorem N3{a:Nat}{size:Nat}(h:w.ownsRow A e size v n xs)(b:a<=A):w.ownsRow a e size v n xs :=
 ⟨h.1,h.2.imp_right λ⟨g,cap,cur,h1,h2,h3⟩=>⟨g,cap,cur,h1,Qzx b h2,h3⟩⟩
theorem Tl(h:Hd)(z:Nat->Hd):∀k,(kf h z k).1.length<=2*k
 | 0=>Nat.le_refl _
 | k+1=>by
  have:=Tl h z k;rw[kf];simp only[List.length_append]
  split<;>split<;>simp<;>omega
theorem aby(s:Hs)(h:Hd)(w:World)(hs:s.At w)(hr:ax s.n (db s.z)=false)(an:Ce h):
  Calls prog 119 #[s.val,.int .i64 h.o,.int .i64 h.l,.int .i64 h.b,.int .i64 h.n] w λe w'=>∃v,e = .returned v/\w'.ownsRow w.heap.size 61 4 v (Mn h s.n s.z).length (Ke (Mn h s.n s.z))/\Below w.heap.size w w':=by
 have ao:=yf hr;have HF:Hid (∀j,j<s.n->Ce (s.z j)):=λj hj=>N9 (cd hr j hj);clear hr;obtain⟨i0,hi,aj,ak,ai⟩:=info_parts L8;obtain⟨Y,hW,ah,K0⟩:∃W,w.alloc (.cells #[.int .i64 h.o,.int .i64 h.l,.int .i64 h.b,.int .i64 h.n] 61)=W/\Below w.heap.size w W/\Blk W w.heap.size 61 4 (λj=>(#[.int .i64 h.o,.int .i64 h.l,.int .i64 h.b,.int .i64 h.n]:Array Value).getD j default):=⟨_,rfl,brf.alloc nlr _,Blk.mk' rfl rfl⟩;have HW:Hid (w.alloc (.cells #[.int .i64 h.o,.int .i64 h.l,.int .i64 h.b,.int .i64 h.n] 61)=Y):=hW;have ac:=hid an;have HT:Hid (∀T,Below Y.heap.size Y T->T.cell? ⟨w.heap.size,0,none⟩=some (.int .i64 h.o)/\T.cell? ⟨w.heap.size,0+1,none⟩=some (.int .i64 h.l)/\T.cell? ⟨w.heap.size,0+2,none⟩=some (.int .i64 h.b)/\T.cell? ⟨w.heap.size,0+3,none⟩=some (.int .i64 h.n)):=λT U=>⟨(K0.below U).k 0,(K0.below U).k 1,(K0.below U).k 2,(K0.below U).k 3⟩;have HS:Hid (∀T,Below Y.heap.size Y T->s.At T/\Below w.heap.size w T):=λT U=>⟨(hs.below ah).below U,ah.trans (U.mono ah.size)⟩;have ay:=hid ah.size;have bm:=hs.le;have a0:=hs.cap;unfold maxLen at a0;clear hW ah K0 hs an;obtain⟨a,n,c,z⟩:=s;dsimp only at *;simp only[Hs.val];go_enter func119,ntmps119;go_wp2_with fail;rw[HW.out];clear HW
 go_loopw [12,13,14] (λv dn i wk=>∃k:Nat,k<=n/\i = .int .i64 k/\dn = .bool (kf h z k).2/\wk.ownsRow Y.heap.size 61 4 v (kf h z k).1.length (Ke (kf h z k).1)/\Below Y.heap.size Y wk) (λ_ _ i _=>n-(intOf i).toNat)
 case atStart=>exact⟨0,Qxz _,rfl,rfl,World.ownsRow_nil _ _ _ _,Below.refl _ _⟩
 obtain⟨k,hk,rfl,rfl,own,d⟩:=hrel;have V:Hid ((kf h z k).1.length<=2*k):=Tl h z k;by_cases ap:k<n;rotate_left
 .have a5:k=n:=by omega
  subst a5;have q1:¬(k:Int)<(k:Int):=by omega
  have HB:Hid (Below w.heap.size w wr):=(HS.out wr d).2;have HA:Hid (Mn h k z=if (kf h z k).2 then(kf h z k).1 else(kf h z k).1++[h]):=rfl
  generalize (kf h z k).1=L at *
  generalize (kf h z k).2=D at *
  cases D
  .obtain⟨r,p,g,m⟩:=HT.out wr d;simp only[Nat.zero_add] at p g m;go_wp2_with(at_builtin;refine wpList_append_own _ rfl (.tmp 61) (.tmp 63) 28 rfl Y.heap.size 61 i0 (.agg #[.int .i64 0,.int .i64 0,.int .i64 0,.int .i64 0]) 4 32 underlying28 hi aj ak ai rfl (by decide) _ _ _ rfl (World.ownsRow.alloc own _) ⟨wr.heap.size,0,none⟩ 1 1 (dc h) rfl rfl (Cc _ _ _) (Ao _) (by have:=V.out;have:=ao;unfold maxLen;omega) (by have:=V.out;have:=ao;omega) (by have:=d.size;simp;omega) ?_;intro v2 X t Q ab);have d:=(d.alloc d.size _).grown Q (by have:=d.size;simp;omega) (λq f=>(World.ownsRow.lt own q f).1);rw[<-yq,show ∀l:List Hd,l.length+1=(l++[h]).length from λl=>by simp] at t;have own:=t;clear r p g m Q ab t;go_wp2_with fail;go_ret;exact⟨_,rfl,by rw[HA.out];exact N3 own ay.out,(HS.out _ d).2⟩
  go_wp2_with fail;go_ret;exact⟨_,rfl,by rw[HA.out];exact N3 own ay.out,HB.out⟩
 have ae:Hid (Ce (z k)):=HF.out k ap;obtain⟨bb,oo,ha,bl,-⟩:=(HS.out wr d).1.hds k ap;subst ha;have HK:Hid (∀T,Below Y.heap.size Y T->T.cell? ⟨bb,oo+k*4,none⟩=some (.int .i64 (z k).o)/\T.cell? ⟨bb,oo+k*4+1,none⟩=some (.int .i64 (z k).l)/\T.cell? ⟨bb,oo+k*4+2,none⟩=some (.int .i64 (z k).b)/\T.cell? ⟨bb,oo+k*4+3,none⟩=some (.int .i64 (z k).n)):=λT U=>by
  obtain⟨b',o',he,-,q0,q1,q2,q3⟩:=(HS.out T U).1.hds k ap;simp only[Qkx,Qkz,and_true] at he;obtain⟨rfl,rfl⟩:=he;exact⟨q0,q1,q2,q3⟩
 have m1:(0:Int)<=(k:Int):=by omega
 have m2:(k:Int)<(n:Int):=by omega
 have HO:Hid (kf h z (k+1)=((kf h z k).1++(if wA h (kf h z k).2 (z k) then [h] else [])++(if ba (z k) !=ba h then [z k] else []),(kf h z k).2||wA h (kf h z k).2 (z k))):=rfl;have ag:Hid (k<=72):=by show _<=_;omega
 generalize (kf h z k).1=L at *
 generalize (kf h z k).2=D at *
 cases D;rotate_left
 .have S:Hid (kf h z (k+1)=(L++(if ba (z k) !=ba h then [z k] else []),true)):=by show _=_;rw[HO.out,show wA h true (z k)=false from rfl];simp
  clear HO;obtain⟨r,p,g,m⟩:=HT.out wr d;obtain⟨H,x,F,u⟩:=dt r p g m;simp only[Nat.zero_add] at p g m x F u;obtain⟨E,B,A,y⟩:=HK.out wr d;obtain⟨M,J,P,K⟩:=dt E B A y;go_wp2_with fail;refine Qxq (by kernel_rfl) (by kernel_rfl) ?_
  repeat(go_big_quiet_step((go_at_call 154;exact Xxz (uf _ _ (by first|exact ae.out|exact ac.out)))))
  refine Qqz ?_;intro X f;have f:=qe f;have d:=d.trans (f.mono d.size);have own:=j6 own f;clear r p g m H x F u E B A y M J P K;clear f;cases hc:(ba (z k) !=ba h)
  .have G:Hid (kf h z (k+1)=(L,true)):=by show _=_;rw[S.out,hc];simp
   clear S;obtain⟨r,p,g,m⟩:=HT.out X d;obtain⟨H,x,F,u⟩:=dt r p g m;simp only[Nat.zero_add] at p g m x F u;obtain⟨E,B,A,y⟩:=HK.out X d;obtain⟨M,J,P,K⟩:=dt E B A y;go_wp2_with fail;refine Qxq (by kernel_rfl) (by kernel_rfl) ?_
   repeat(go_big_quiet_step((go_at_call 154;exact Xxz (uf _ _ (by first|exact ae.out|exact ac.out)))))
   refine Qqz ?_;intro wc f;have f:=qe f;have d:=d.trans (f.mono d.size);have own:=j6 own f;clear r p g m H x F u E B A y M J P K;clear f;go_wp2_with fail;go_roundw
   case rel=>exact⟨k+1,by omega,by go_num,by rw[G.out],by rw[G.out];exact own,d⟩
   case measure=>simp[intOf];omega
  have G:Hid (kf h z (k+1)=(L++[z k],true)):=by show _=_;rw[S.out,hc];simp
  clear S;obtain⟨r,p,g,m⟩:=HT.out X d;obtain⟨H,x,F,u⟩:=dt r p g m;simp only[Nat.zero_add] at p g m x F u;obtain⟨E,B,A,y⟩:=HK.out X d;obtain⟨M,J,P,K⟩:=dt E B A y;go_wp2_with fail;refine Qxq (by kernel_rfl) (by kernel_rfl) ?_
  repeat(go_big_quiet_step((go_at_call 154;exact Xxz (uf _ _ (by first|exact ae.out|exact ac.out)))))
  refine Qqz ?_;intro wc f;have f:=qe f;have d:=d.trans (f.mono d.size);have own:=j6 own f;clear r p g m H x F u E B A y M J P K;clear f;obtain⟨r,p,g,m⟩:=HT.out wc d;obtain⟨H,x,F,u⟩:=dt r p g m;simp only[Nat.zero_add] at p g m x F u;obtain⟨E,B,A,y⟩:=HK.out wc d;obtain⟨M,J,P,K⟩:=dt E B A y;go_wp2_with(at_builtin;refine wpList_append_own _ rfl (.tmp 52) (.tmp 57) 28 rfl Y.heap.size 61 i0 (.agg #[.int .i64 0,.int .i64 0,.int .i64 0,.int .i64 0]) 4 32 underlying28 hi aj ak ai rfl (by decide) _ _ _ rfl (World.ownsRow.alloc own _) ⟨wc.heap.size,0,none⟩ 1 1 (dc (z k)) rfl rfl (Cc _ _ _) (Ao _) (by have:=V.out;have:=ag.out;simp;unfold maxLen;omega) (by have:=V.out;have:=ag.out;simp;omega) (by have:=d.size;simp;omega) ?_;intro v2 wd t Q ab);have d:=(d.alloc d.size _).grown Q (by have:=d.size;simp;omega) (λq f=>(World.ownsRow.lt own q f).1);rw[<-yq,show ∀l:List Hd,l.length+1=(l++[(z k)]).length from λl=>by simp] at t;have own:=t;clear r p g m H x F u E B A y M J P K;clear Q ab t;go_wp2_with fail;go_roundw
  case rel=>exact⟨k+1,by omega,by go_num,by rw[G.out],by rw[G.out];exact own,d⟩
  case measure=>simp[intOf];omega
 by_cases U:ba h<=ba (z k);rotate_left
 .have g1:decide (ba h<=ba (z k))=false:=decide_eq_false U;have S:Hid (kf h z (k+1)=(L++(if ba (z k) !=ba h then [z k] else []),false)):=by show _=_;rw[HO.out,show wA h false (z k)=false from by simp[wA,U]];simp
  clear HO;clear U;obtain⟨r,p,g,m⟩:=HT.out wr d;obtain⟨H,x,F,u⟩:=dt r p g m;simp only[Nat.zero_add] at p g m x F u;obtain⟨E,B,A,y⟩:=HK.out wr d;obtain⟨M,J,P,K⟩:=dt E B A y;go_wp2_with fail;refine Qxq (by kernel_rfl) (by kernel_rfl) ?_
  repeat(go_big_quiet_step((go_at_call 154;exact Xxz (uf _ _ (by first|exact ae.out|exact ac.out)))))
  refine Qqz ?_;intro X f;have f:=qe f;have d:=d.trans (f.mono d.size);have own:=j6 own f;clear r p g m H x F u E B A y M J P K;clear f;clear g1;cases hc:(ba (z k) !=ba h)
  .have G:Hid (kf h z (k+1)=(L,false)):=by show _=_;rw[S.out,hc];simp
   clear S;obtain⟨r,p,g,m⟩:=HT.out X d;obtain⟨H,x,F,u⟩:=dt r p g m;simp only[Nat.zero_add] at p g m x F u;obtain⟨E,B,A,y⟩:=HK.out X d;obtain⟨M,J,P,K⟩:=dt E B A y;go_wp2_with fail;refine Qxq (by kernel_rfl) (by kernel_rfl) ?_
   repeat(go_big_quiet_step((go_at_call 154;exact Xxz (uf _ _ (by first|exact ae.out|exact ac.out)))))
   refine Qqz ?_;intro wc f;have f:=qe f;have d:=d.trans (f.mono d.size);have own:=j6 own f;clear r p g m H x F u E B A y M J P K;clear f;go_wp2_with fail;go_roundw
   case rel=>exact⟨k+1,by omega,by go_num,by rw[G.out],by rw[G.out];exact own,d⟩
   case measure=>simp[intOf];omega
  have G:Hid (kf h z (k+1)=(L++[z k],false)):=by show _=_;rw[S.out,hc];simp
  clear S;obtain⟨r,p,g,m⟩:=HT.out X d;obtain⟨H,x,F,u⟩:=dt r p g m;simp only[Nat.zero_add] at p g m x F u;obtain⟨E,B,A,y⟩:=HK.out X d;obtain⟨M,J,P,K⟩:=dt E B A y;go_wp2_with fail;refine Qxq (by kernel_rfl) (by kernel_rfl) ?_
  repeat(go_big_quiet_step((go_at_call 154;exact Xxz (uf _ _ (by first|exact ae.out|exact ac.out)))))
  refine Qqz ?_;intro wc f;have f:=qe f;have d:=d.trans (f.mono d.size);have own:=j6 own f;clear r p g m H x F u E B A y M J P K;clear f;obtain⟨r,p,g,m⟩:=HT.out wc d;obtain⟨H,x,F,u⟩:=dt r p g m;simp only[Nat.zero_add] at p g m x F u;obtain⟨E,B,A,y⟩:=HK.out wc d;obtain⟨M,J,P,K⟩:=dt E B A y;go_wp2_with(at_builtin;refine wpList_append_own _ rfl (.tmp 52) (.tmp 57) 28 rfl Y.heap.size 61 i0 (.agg #[.int .i64 0,.int .i64 0,.int .i64 0,.int .i64 0]) 4 32 underlying28 hi aj ak ai rfl (by decide) _ _ _ rfl (World.ownsRow.alloc own _) ⟨wc.heap.size,0,none⟩ 1 1 (dc (z k)) rfl rfl (Cc _ _ _) (Ao _) (by have:=V.out;have:=ag.out;simp;unfold maxLen;omega) (by have:=V.out;have:=ag.out;simp;omega) (by have:=d.size;simp;omega) ?_;intro v2 wd t Q ab);have d:=(d.alloc d.size _).grown Q (by have:=d.size;simp;omega) (λq f=>(World.ownsRow.lt own q f).1);rw[<-yq,show ∀l:List Hd,l.length+1=(l++[(z k)]).length from λl=>by simp] at t;have own:=t;clear r p g m H x F u E B A y M J P K;clear Q ab t;go_wp2_with fail;go_roundw
  case rel=>exact⟨k+1,by omega,by go_num,by rw[G.out],by rw[G.out];exact own,d⟩
  case measure=>simp[intOf];omega
 have g1:decide (ba h<=ba (z k))=true:=decide_eq_true U;have S:Hid (kf h z (k+1)=((L++[h])++(if ba (z k) !=ba h then [z k] else []),true)):=by show _=_;rw[HO.out,show wA h false (z k)=true from by simp[wA,U]];simp
 clear HO;clear U;obtain⟨r,p,g,m⟩:=HT.out wr d;obtain⟨H,x,F,u⟩:=dt r p g m;simp only[Nat.zero_add] at p g m x F u;obtain⟨E,B,A,y⟩:=HK.out wr d;obtain⟨M,J,P,K⟩:=dt E B A y;go_wp2_with fail;refine Qxq (by kernel_rfl) (by kernel_rfl) ?_
 repeat(go_big_quiet_step((go_at_call 154;exact Xxz (uf _ _ (by first|exact ae.out|exact ac.out)))))
 refine Qqz ?_;intro wa f;have f:=qe f;have d:=d.trans (f.mono d.size);have own:=j6 own f;clear r p g m H x F u E B A y M J P K;clear f;obtain⟨r,p,g,m⟩:=HT.out wa d;obtain⟨H,x,F,u⟩:=dt r p g m;simp only[Nat.zero_add] at p g m x F u;obtain⟨E,B,A,y⟩:=HK.out wa d;obtain⟨M,J,P,K⟩:=dt E B A y;go_wp2_with(at_builtin;refine wpList_append_own _ rfl (.tmp 40) (.tmp 42) 28 rfl Y.heap.size 61 i0 (.agg #[.int .i64 0,.int .i64 0,.int .i64 0,.int .i64 0]) 4 32 underlying28 hi aj ak ai rfl (by decide) _ _ _ rfl (World.ownsRow.alloc own _) ⟨wa.heap.size,0,none⟩ 1 1 (dc h) rfl rfl (Cc _ _ _) (Ao _) (by have:=V.out;have:=ag.out;unfold maxLen;omega) (by have:=V.out;have:=ag.out;omega) (by have:=d.size;simp;omega) ?_;intro v2 X t Q ab);have d:=(d.alloc d.size _).grown Q (by have:=d.size;simp;omega) (λq f=>(World.ownsRow.lt own q f).1);rw[<-yq,show ∀l:List Hd,l.length+1=(l++[h]).length from λl=>by simp] at t;have own:=t;clear r p g m H x F u E B A y M J P K;clear Q ab t g1;cases hc:(ba (z k) !=ba h)
 .have G:Hid (kf h z (k+1)=((L++[h]),true)):=by show _=_;rw[S.out,hc];simp
  clear S;obtain⟨r,p,g,m⟩:=HT.out X d;obtain⟨H,x,F,u⟩:=dt r p g m;simp only[Nat.zero_add] at p g m x F u;obtain⟨E,B,A,y⟩:=HK.out X d;obtain⟨M,J,P,K⟩:=dt E B A y;go_wp2_with fail;refine Qxq (by kernel_rfl) (by kernel_rfl) ?_
  repeat(go_big_quiet_step((go_at_call 154;exact Xxz (uf _ _ (by first|exact ae.out|exact ac.out)))))
  refine Qqz ?_;intro wc f;have f:=qe f;have d:=d.trans (f.mono d.size);have own:=j6 own f;clear r p g m H x F u E B A y M J P K;clear f;go_wp2_with fail;go_roundw
  case rel=>exact⟨k+1,by omega,by go_num,by rw[G.out],by rw[G.out];exact own,d⟩
  case measure=>simp[intOf];omega
 have G:Hid (kf h z (k+1)=((L++[h])++[z k],true)):=by show _=_;rw[S.out,hc];simp
 clear S;obtain⟨r,p,g,m⟩:=HT.out X d;obtain⟨H,x,F,u⟩:=dt r p g m;simp only[Nat.zero_add] at p g m x F u;obtain⟨E,B,A,y⟩:=HK.out X d;obtain⟨M,J,P,K⟩:=dt E B A y;go_wp2_with fail;refine Qxq (by kernel_rfl) (by kernel_rfl) ?_
 repeat(go_big_quiet_step((go_at_call 154;exact Xxz (uf _ _ (by first|exact ae.out|exact ac.out)))))
 refine Qqz ?_;intro wc f;have f:=qe f;have d:=d.trans (f.mono d.size);have own:=j6 own f;clear r p g m H x F u E B A y M J P K;clear f;obtain⟨r,p,g,m⟩:=HT.out wc d;obtain⟨H,x,F,u⟩:=dt r p g m;simp only[Nat.zero_add] at p g m x F u;obtain⟨E,B,A,y⟩:=HK.out wc d;obtain⟨M,J,P,K⟩:=dt E B A y;go_wp2_with(at_builtin;refine wpList_append_own _ rfl (.tmp 52) (.tmp 57) 28 rfl Y.heap.size 61 i0 (.agg #[.int .i64 0,.int .i64 0,.int .i64 0,.int .i64 0]) 4 32 underlying28 hi aj ak ai rfl (by decide) _ _ _ rfl (World.ownsRow.alloc own _) ⟨wc.heap.size,0,none⟩ 1 1 (dc (z k)) rfl rfl (Cc _ _ _) (Ao _) (by have:=V.out;have:=ag.out;simp;unfold maxLen;omega) (by have:=V.out;have:=ag.out;simp;omega) (by have:=d.size;simp;omega) ?_;intro v2 wd t Q ab);have d:=(d.alloc d.size _).grown Q (by have:=d.size;simp;omega) (λq f=>(World.ownsRow.lt own q f).1);rw[<-yq,show ∀l:List Hd,l.length+1=(l++[(z k)]).length from λl=>by simp] at t;have own:=t;clear r p g m H x F u E B A y M J P K;clear Q ab t;go_wp2_with fail;go_roundw
 case rel=>exact⟨k+1,by omega,by go_num,by rw[G.out],by rw[G.out];exact own,d⟩
 case measure=>simp[intOf];omega
def yy(k:Nat)(f:Nat->Hd):List Hd:=(List.range k).map f
theorem se(k:Nat)(f:Nat->Hd):yy (k+1) f=yy k f++[f k]:=by simp[yy,List.range_succ]
theorem Zi(k:Nat)(f:Nat->Hd):(yy k f).length=k:=by simp[yy]
theorem Nz(f:Nat->Hd):∀k,Ke (yy k f)=ay k f
 | 0=>rfl
 | k+1=>by rw[se,yq,Nz f k,tw]
theorem aac{x:Hd}(e:ba h<=ba x):wA h false x=true:=by simp[wA,e]
theorem ab9{x:Hd}(e:ba x<ba h):wA h false x=false:=by simp[wA];omega
theorem Pn(h x:Hd):wA h true x=false:=rfl
theorem J8{k:Nat}{L:List Hd}{D:Bool}(e:kf h z k=(L,D)):kf h z (k+1)=(L++(if wA h D (z k) then [h] else [])++(if ba (z k) !=ba h then [z k] else []),D||wA h D (z k)):=by rw[kf,e]
theorem Tm{h:Hd}{z:Nat->Hd}{n p:Nat}(a:∀j,j<p->ba (z j)<ba h)(b:∀j,p<j->j<n->ba h<ba (z j))(d:ba (z p)=ba h)(e:¬h.n=0):∀k,k<=n->kf h z k=(yy k (sp z p h),decide (p<k))
 | 0,_=>by simp[kf,yy,e]
 | k+1,hk=>by
  rw[J8 (Tm a b d e k (by omega)),se];unfold sp;rcases Nat.lt_trichotomy k p with c|c|c
  .have:=a k c;rw[decide_eq_false (by omega:¬p<k),decide_eq_false (by omega:¬p<k+1),ab9 this,if_neg (by omega:¬k=p),if_pos (by simp;omega:(ba (z k) !=ba h)=true)];simp
  .subst c;rw[decide_eq_false (by omega:¬k<k),decide_eq_true (by omega:k<k+1),aac (by omega),if_pos (rfl:k=k),if_neg (by simp;omega:¬(ba (z k) !=ba h)=true)];simp
  have:=b k c (by omega);rw[decide_eq_true c,decide_eq_true (by omega:p<k+1),Pn,if_neg (by omega:¬k=p),if_pos (by simp;omega:(ba (z k) !=ba h)=true)];simp
theorem Tj{h:Hd}{z:Nat->Hd}{n p:Nat}(b:∀j,j<p->ba (z j)<ba h)(d:∀j,p<j->j<n->ba h<ba (z j))(a:p<n->ba h<ba (z p))(e:¬h.n=0):∀k,k<=n->kf h z k=(yy (if k<=p then k else k+1) (mn z p h),decide (p<k))
 | 0,_=>by simp[kf,yy,e]
 | k+1,hk=>by
  rw[J8 (Tj b d a e k (by omega))];rcases Nat.lt_trichotomy k p with c|c|c
  .have:=b k c;rw[decide_eq_false (by omega:¬p<k),decide_eq_false (by omega:¬p<k+1),ab9 this,if_pos (by omega:k<=p),if_pos (by omega:k+1<=p),se,show mn z p h k=z k by unfold mn;rw[if_pos c],if_pos (by simp;omega:(ba (z k) !=ba h)=true)];simp
  .subst c;have:=a (by omega);rw[decide_eq_false (by omega:¬k<k),decide_eq_true (by omega:k<k+1),aac (by omega),if_pos (Nat.le_refl k),if_neg (by omega:¬k+1<=k),se,se,show mn z k h k=h by unfold mn;rw[if_neg (by omega),if_pos rfl],show mn z k h (k+1)=z k by unfold mn;rw[if_neg (by omega),if_neg (by omega)];rfl,if_pos (by simp;omega:(ba (z k) !=ba h)=true)];simp
  have:=d k c (by omega);rw[decide_eq_true c,decide_eq_true (by omega:p<k+1),Pn,if_neg (by omega:¬k<=p),if_neg (by omega:¬k+1<=p),se (k+1),show mn z p h (k+1)=z k by unfold mn;rw[if_neg (by omega),if_neg (by omega)];rfl,if_pos (by simp;omega:(ba (z k) !=ba h)=true)];simp
theorem Qx{h:Hd}{z:Nat->Hd}{n p:Nat}(a:∀j,j<p->ba (z j)<ba h)(b:∀j,p<j->j<n->ba h<ba (z j))(d:ba (z p)=ba h)(e:h.n=0):∀k,k<=n->kf h z k=(yy (if k<=p then k else k-1) (fw z p),true)
 | 0,_=>by simp[kf,yy,e]
 | k+1,hk=>by
  rw[J8 (Qx a b d e k (by omega)),Pn];rcases Nat.lt_trichotomy k p with c|c|c
  .have:=a k c;rw[if_pos (by omega:k<=p),if_pos (by omega:k+1<=p),se,show fw z p k=z k by unfold fw;rw[if_pos c],if_pos (by simp;omega:(ba (z k) !=ba h)=true)];simp
  .subst c;rw[if_pos (Nat.le_refl k),if_neg (by omega:¬k+1<=k),if_neg (by simp;omega:¬(ba (z k) !=ba h)=true)];simp
  have:=b k c (by omega);obtain⟨m,rfl⟩:∃m,k=m+1:=⟨k-1,by omega⟩;rw[if_neg (by omega:¬m+1<=p),if_neg (by omega:¬m+1+1<=p),Nat.add_sub_cancel,Nat.add_sub_cancel,se m,show fw z p m=z (m+1) by unfold fw;rw[if_neg (by omega)],if_pos (by simp;omega:(ba (z (m+1)) !=ba h)=true)];simp
theorem Mo{s:Hs}{m:Nat}{f:Nat->Hd}(e:Mn h s.n s.z=yy m f)(hs:s.At w)(p:ax s.n (db s.z)=false)(d:Ce h):
  Calls prog 119 #[s.val,.int .i64 h.o,.int .i64 h.l,.int .i64 h.b,.int .i64 h.n] w λe c=>∃a:Hs,e = .returned a.val/\cw w.heap.size 61 c a/\a.n=m/\a.z=f/\Below w.heap.size w c:=by
 refine(aby s h w hs p d).mono λe' c ⟨v,h1,h2,h3⟩=> ?_;rw[e,Zi,Nz] at h2;obtain⟨a,j,k,i,g⟩:=cw.ofRow h2 nlr;exact⟨a,by rw[h1,j],k,i,g,h3⟩
theorem Qy(s:Hs)(h:Hd)(p:Nat)(w:World)(hs:s.At w)(q:ax s.n (db s.z)=false)(c:Ce h)(k:p<s.n)(d:ba (s.z p)=ba h)(m:¬h.n=0)(g:∀j,j<p->ba (s.z j)<ba h)(i:∀j,p<j->j<s.n->ba h<ba (s.z j)):
  Calls prog 119 #[s.val,.int .i64 h.o,.int .i64 h.l,.int .i64 h.b,.int .i64 h.n] w λe f=>∃a:Hs,e = .returned a.val/\cw w.heap.size 61 f a/\a.n=s.n/\a.z=sp s.z p h/\Below w.heap.size w f :=
 Mo (by unfold Mn;rw[Tm g i d m s.n nlr,decide_eq_true k];rfl) hs q c
theorem aaf(s:Hs)(h:Hd)(p:Nat)(w:World)(hs:s.At w)(r:ax s.n (db s.z)=false)(d:Ce h)(t:p<=s.n)(f:p<s.n->ba h<ba (s.z p))(q:¬h.n=0)(i:∀j,j<p->ba (s.z j)<ba h)(k:∀j,p<j->j<s.n->ba h<ba (s.z j)):
  Calls prog 119 #[s.val,.int .i64 h.o,.int .i64 h.l,.int .i64 h.b,.int .i64 h.n] w λe g=>∃a:Hs,e = .returned a.val/\cw w.heap.size 61 g a/\a.n=s.n+1/\a.z=mn s.z p h/\Below w.heap.size w g :=
 Mo (by
  unfold Mn;rw[Tj i k f q s.n nlr];by_cases c:p<s.n
  .rw[decide_eq_true c,if_neg (by omega:¬s.n<=p)];rfl
  have m:p=s.n:=by omega
  subst m;rw[decide_eq_false (by omega),if_pos nlr,se,show mn s.z s.n h s.n=h by unfold mn;rw[if_neg (by omega),if_pos rfl]]
  rfl) hs r d
theorem Ol(s:Hs)(h:Hd)(p:Nat)(w:World)(hs:s.At w)(m:ax s.n (db s.z)=false)(c:Ce h)(q:p<s.n)(d:ba (s.z p)=ba h)(k:h.n=0)(g:∀j,j<p->ba (s.z j)<ba h)(i:∀j,p<j->j<s.n->ba h<ba (s.z j)):
  Calls prog 119 #[s.val,.int .i64 h.o,.int .i64 h.l,.int .i64 h.b,.int .i64 h.n] w λe f=>∃a:Hs,e = .returned a.val/\cw w.heap.size 61 f a/\a.n=s.n-1/\a.z=fw s.z p/\Below w.heap.size w f :=
 Mo (by unfold Mn;rw[Qx g i d k s.n nlr,if_neg (by omega:¬s.n<=p)];rfl) hs m c
theorem Q3(r s:Hs)(w:World)(E:r.At w)(hs:s.At w)(v:r.n=s.n)(l:∀j,j<r.n->r.z j=s.z j):
  Calls prog 29 #[r.val,s.val] w λe t=>e = .returned (.bool true)/\Below w.heap.size w t:=by
 obtain⟨ra,d,L,x⟩:=r;obtain⟨sa,T,K,Q⟩:=s;obtain⟨J,f,D,_⟩:=E;obtain⟨G,c,sh,_⟩:=hs;dsimp only at *;subst v;have B:=hid l;clear l;unfold maxLen at f c;simp only[Hs.val];go_enter func29,ntmps29;go_wp2_with fail
 go_loopw [5] (λi p=>∃k:Nat,k<=d/\i = .int .i64 k/\Below w.heap.size w p) (λi _=>d-(intOf i).toNat)
 case atStart=>exact⟨0,Qxz _,rfl,Below.refl _ _⟩
 obtain⟨k,S,rfl,b⟩:=hrel;by_cases a:k<d
 .obtain⟨b1,M,rfl,F,u,y,q,A⟩:=(D.below b) k a;obtain⟨b2,P,rfl,H,m,h,o,g⟩:=(sh.below b) k a;rw[<-B.out k a] at m h o g
  generalize x k=Z at u y q A m h o g
  go_wp2_with fail
  go_quiet (fail)
  go_wp2_with fail;go_roundw
  case rel=>exact⟨k+1,by omega,by go_num,below_drewN b _⟩
  case measure=>simp[intOf];omega
 go_wp2_with fail;go_ret;exact⟨rfl,b⟩
theorem tn{o l b:Int}(f:ax n (db z)=false)(i:¬keptV n z o l b=0):
  jp n z o l b<n/\bp (z (jp n z o l b)) o l b=true/\keptV n z o l b=(z (jp n z o l b)).n/\(∀j,j<jp n z o l b->ba (z j)<ba (z (jp n z o l b)))/\(∀j,jp n z o l b<j->j<n->ba (z (jp n z o l b))<ba (z j)):=by
 rcases sx n z o l b with h|⟨k,a,g,d⟩
 .exact absurd (kw h) i
 rw[Hb a g d];exact⟨a,d,m9 a g d,λj c=>nk f j k c a,λj c e=>nk f k j c e⟩
theorem Ff{x:Hd}{o l b n:Int}(h:bp x o l b=true):ba x=ba ⟨o,l,b,n⟩:=by
 have a:=fk h;simp[ba,a]
theorem Zn{x:Hd}{o l b n:Int}(h:bp x o l b=true)(hx:ie x=true):Ce ⟨o,l,b,n⟩:=by
 have a:=fk h;have r:=N9 hx;unfold Ce at r ⊢;rw[a.1,a.2.1,a.2.2] at r;exact r
def l9(ops:Array Oper)(i:Nat):List Nat:=match ops[i]? with
 | none=>[]
 | some o=>(o.after.toList.filter (λe=>Region.binds .any e)).map (λe=>e.on)
def kc(listed:Array Bool):List Nat->Array Bool
 | []=>listed
 | i :: r=>kc (listed.setIfInBounds i true) r
def Bv(ops:Array Oper):List Nat->Array Bool->Bool
 | [],_=>true
 | i :: r,listed=>(Region.ready .any ops listed).contains i&&Region.free .any ops listed i&&Bv ops r (listed.setIfInBounds i true)
def Rh(ops:Array Oper)(L:Array Bool):List Nat->List Nat->Bool
 | _,[]=>true
 | seen,i :: r=>(l9 ops i).all (λd=>L.getD d false||seen.contains d)&&Rh ops L (i :: seen) r
def az(ops:Array Oper)(i:Nat):Option Tmp:=match ops[i]? with
 | none=>none
 | some o=>o.dst
theorem Fd:∀(l:List Nat) (a:Array Bool),(kc a l).size=a.size
 | [],_=>rfl
 | i :: r,a=>by rw[kc,Fd r];simp
theorem Ho:∀(l:List Nat) (a:Array Bool) (j:Nat),j<a.size->(kc a l)[j]?=if j∈l then some true else a[j]?
 | [],a,j,_=>by simp[kc]
 | i :: r,a,j,hj=>by
  rw[kc,Ho r _ j (by simpa using hj),Array.getElem?_setIfInBounds];by_cases c:j∈r
  .simp[c]
  by_cases b:i=j
  .subst b;simp[c,hj]
  have d:¬j=i:=λe=>b e.symm;simp[c,b,d]
def ap(ops:Array Oper)(rem:List Nat)(V:Nat->Value)(a:Act):Act:=match rem with
 | []=>a
 | i :: r=>ap ops r V (a.put (az ops i) (V i))
theorem abg(a:Act)(d:Option Tmp):a.put d (match d with|some d=>a.tmps.getD d undef|none=>undef)=a:=by
 cases d with
 | none=>rfl
 | some d =>
  cases a with
  | mk tmps defers =>
   simp only[Act.put]
   congr 1
   apply Array.ext_getElem?
   intro i;rw[Array.getElem?_setIfInBounds];by_cases h:d=i
   .subst h;by_cases b:d<tmps.size
    .simp[b,Array.getD]
    simp[b]
   simp[h]
theorem acu(a:Act)(d:Option Tmp)(u v:Value):(a.put d u).put d v=a.put d v:=by
 cases d with
 | none=>rfl
 | some d =>
  simp only[Act.put]
  congr 1
  apply Array.ext_getElem?
  intro i;simp only[Array.getElem?_setIfInBounds,Array.size_setIfInBounds];by_cases h:d=i<;>simp[h]
theorem abh(a:Act){d b:Option Tmp}(u v:Value)(h:d≠b):(a.put d u).put b v=(a.put b v).put d u:=by
 cases d with
 | none=>rfl
 | some d=>cases b with
  | none=>rfl
  | some b =>
   have g:d≠b:=λe=>h (by rw[e]);simp only[Act.put]
   congr 1
   apply Array.ext_getElem?
   intro i;simp only[Array.getElem?_setIfInBounds,Array.size_setIfInBounds];by_cases f:d=i
   .have c:¬b=i:=λe=>g (f.trans e.symm);simp[f,c]
   by_cases c:b=i<;>simp[f,c]
def upd(V:Nat->Value)(i:Nat)(v:Value)(j:Nat):Value:=if j=i then v else V j
theorem Js{c:Array Oper}:∀{b:List Nat} {V d:Nat->Value} {a:Act},(∀j∈b,V j=d j)->ap c b V a=ap c b d a
 | [],_,_,_,_=>rfl
 | i :: r,V,d,a,h=>by
  rw[ap,ap,h i (by simp)];exact Js λj e=>h j (by simp[e])
theorem Lk{b:Array Oper}{d:Option Tmp}{v:Value}:∀{c:List Nat} {V:Nat->Value} {a:Act},d ∉ c.map (az b)->ap b c V (a.put d v)=(ap b c V a).put d v
 | [],_,_,_=>rfl
 | i :: r,V,a,h=>by
  simp only[List.map_cons,List.mem_cons,not_or] at h;rw[ap,ap,abh a _ _ h.1];exact Lk h.2
theorem Dk{b:Array Oper}{i:Nat}{v:Value}:∀{c:List Nat} {V:Nat->Value} {a:Act},(c.map (az b)).Nodup->i∈c->(ap b c V a).put (az b i) v=ap b c (upd V i v) a
 | [],_,_,_,hi=>by simp at hi
 | k :: r,V,a,hn,hi=>by
  simp only[List.map_cons,List.nodup_cons] at hn;rw[ap,ap];by_cases d:k=i
  .subst d;have g:k ∉ r:=λh=>hn.1 (List.mem_map.2 ⟨k,h,rfl⟩);rw[<-Lk hn.1,acu];have f:upd V k v k=v:=if_pos rfl;rw[f];exact Js λj m=>(if_neg (λe:j=k=>g (by rw[<-e];exact m))).symm
  have f:upd V i v k=V k:=if_neg d;rw[f];have l:i∈r:=by
   rcases List.mem_cons.1 hi with h|h
   .exact absurd h.symm d
   exact h
  exact Dk hn.2 l
theorem z4{b:Array Oper}(a:Act):∀(c:List Nat),ap b c (λi=>match az b i with|some d=>a.tmps.getD d undef|none=>undef) a=a
 | []=>rfl
 | i :: r=>by
  rw[ap,abg];exact z4 a r
theorem aq{l:List Oper}(k:Nat){o:Oper}{a:Act}(c:l[k]?=some o)
  (h:wpList P l.toArray (Exit.then K Q) [o] a w):wpOp P l.toArray Q k K a w:=by
 unfold wpOp;simp only[Qvz,c];unfold wpList at h
 split
 .rename_i b;rw[if_pos b] at h;rcases h with h|⟨f,d⟩
  .exact .inl (Oper.wp_then (Oper.wp_mono (λi g e=>e) h))
  exact .inr ⟨f,d⟩
 rename_i b;rw[if_neg b] at h;exact h
theorem Dp{b:Array Oper}{L a:Array Bool}(l:a.size=b.size):∀(seen c:List Nat),Rh b L seen c=true->(∀d,L.getD d false=true->a.getD d false=true)->(∀d∈seen,a.getD d false=true) ->
  (∀r∈c,r<b.size)->(∃r∈c,a.getD r true=false)->∃r∈c,r∈Region.ready .any b a
 | _,[],_,_,_,_,h=>by obtain⟨r,t,_⟩:=h;simp at t
 | seen,i :: r,hT,hL,hs,hlt,h=>by
  simp only[Rh,Xxx] at hT;by_cases hi:a.getD i true=false
  .refine⟨i,by simp,mem_ready.2 ⟨hi,b[i]'(hlt i (by simp)),by simp[hlt i (by simp)],λe o s => ?_⟩⟩;have hd:e.on∈l9 b i:=by
    unfold l9;simp only[Array.getElem?_eq_getElem (hlt i (by simp))];exact List.mem_map.2 ⟨e,List.mem_filter.2 ⟨by simpa using o,s⟩,rfl⟩
   have:=List.all_eq_true.1 hT.1 _ hd;simp only[Bool.or_eq_true,List.contains_iff_mem] at this;rcases this with g|g
   .exact hL _ g
   exact hs _ g
  obtain⟨q,p,f⟩:=h;have m:q∈r:=by
   rcases List.mem_cons.1 p with e|e
   .subst e;exact absurd f hi
   exact e
  obtain⟨x,hx,j⟩:=Dp l (i :: seen) r hT.2 hL (λd hd=>by
   rcases List.mem_cons.1 hd with e|e
   .subst e;have:a.getD d true=true:=by simpa using hi
    by_cases k:d<a.size
    .simpa[Array.getD,k] using this
    exfalso;have n:a.size<=d:=by omega
    exact k (by
     have:=hlt d (by simp);omega)
   exact hs d e) (λx hx=>hlt x (by simp[hx])) ⟨q,m,f⟩
  exact⟨x,by simp[hx],j⟩
def du(l:List Oper):List Nat->List Oper
 | []=>[]
 | k :: ks=>(l.drop k).take 1++du l ks
theorem Ei{l:List Oper}:∀{a:List Nat},a.all (λk=>decide (k<l.length))=true->a.map (λk=>l[k]?)=(du l a).map some
 | [],_=>rfl
 | k :: a,h=>by
  simp only[List.all_cons,Xxx,decide_eq_true_eq] at h;have b:(l.drop k).take 1=[l[k]'h.1]:=by
   rw[List.drop_eq_getElem_cons h.1]
   rfl
  rw[du,b,List.map_cons,List.singleton_append,List.map_cons,List.getElem?_eq_getElem h.1,Ei h.2]
def rp(P:Program)(ops:Array Oper)(Q:Exit->Act->World->Prop)(S:World->Prop)(T:Nat->Bool):Nat->Array Bool->Act->World->Prop
 | 0,listed,a,w=>Region.ready .any ops listed=[]/\Q .normal a w
 | fuel+1,listed,a,w=>(Region.ready .any ops listed=[]->Q .normal a w) /\
   ∀i∈Region.ready .any ops listed,wpOp P ops Q i (λa' w'=>(T i=false->S w')/\rp P ops Q S T fuel (listed.setIfInBounds i true) a' w') a w
theorem zh{P:Program}{c:Array Oper}{Q:Exit->Act->World->Prop}{S:World->Prop}{T:Nat->Bool}:∀(fuel:Nat) (b:Array Bool) (a:Act) (w:World),rp P c Q S T fuel b a w->wpAny P .any c Q fuel b a w
 | 0,_,_,_,h=>h
 | fuel+1,_,_,_,h=>⟨h.1,λi hi=>wpOp_mono (λe d f=>zh fuel _ e d f.2) (h.2 i hi)⟩
def pa(ops:Array Oper)(listed:Array Bool):Prop:=∀j,listed.getD j false=true->∀d∈l9 ops j,listed.getD d false=true
def Cp(ops:Array Oper):Nat->Nat->Nat->Bool
 | 0,_,_=>false
 | f+1,j,i=>(l9 ops j).any (λd=>d==i||Cp ops f d i)
theorem yb{c:Array Oper}{a:Array Bool}(hc:pa c a):∀(f j i:Nat),(∀d∈l9 c j,a.getD d false=true)->Cp c f j i=true->a.getD i false=true
 | 0,_,_,_,h=>by simp[Cp] at h
 | f+1,j,i,hd,h=>by
  unfold Cp at h;obtain⟨d,e,b⟩:=List.any_eq_true.1 h;simp only[Bool.or_eq_true,beq_iff_eq] at b;rcases b with rfl|b
  .exact hd d e
  exact yb hc f d i (hc d (hd d e)) b
theorem Bc{b:Array Oper}{a:Array Bool}(h:j∈Region.ready .any b a):∀d∈l9 b j,a.getD d false=true:=λd hd=>by
 obtain⟨_,o,g,c⟩:=mem_ready.1 h;unfold l9 at hd;rw[g] at hd;obtain⟨e,f,rfl⟩:=List.mem_map.1 hd;have:=List.mem_filter.1 f;exact c e (by simpa using this.1) this.2
theorem Qa{a:Array Bool}{d:Nat}(h:a.getD d false=true):(a.setIfInBounds i true).getD d false=true:=by
 by_cases hid:i=d
 .subst hid;by_cases b:i<a.size
  .simp[Array.getD,b]
  simp[Array.getD,b] at h
 rw[getD_set_ne false hid];exact h
theorem pa.set{b:Array Oper}{a:Array Bool}(hc:pa b a)(hi:i∈Region.ready .any b a):pa b (a.setIfInBounds i true):=λj e d hd=>by
 by_cases c:i=j
 .subst c;exact Qa (Bc hi d hd)
 rw[getD_set_ne false c] at e;exact Qa (hc j e d hd)
theorem pa.none(a:Array Oper)(n:Nat):pa a (Array.replicate n false):=λj c=>by
 by_cases b:j<n<;>simp[Array.getD,b] at c
theorem Ts{f:Array Oper}{T:Nat->Bool}{N:Nat}{m:Oper}(hi:f[i]?=some m)(u:∀(j:Nat) (o:Oper) cs b,f[j]?=some o->o.op ≠ .select cs b)
  (hQ:∀c a w,Q (.panic c) (a.put m.dst v) w->Q (.panic c) a w) (hT:∀j,T j=true->Cp f N j i=true) (ag:T i=false) :
  ∀(fuel:Nat) (d:Array Bool) (a:Act) (w:World),
   (∀j n,f[j]?=some n->j≠i->d.getD j true=false->(∀e∈n.after,Region.binds .any e=true->e.on≠i)->m.apart f n=true) ->
   i∈Region.ready .any f d->pa f d->YieldsIf P f S m v a->S w ->
   rp P f Q S T fuel (d.setIfInBounds i true) (a.put m.dst v) w->rp P f Q S T (fuel+1) d a w:=by
 intro fuel
 induction fuel with
 | zero =>
  intro d a w _ p _ B y H;refine⟨λh=>(by rw[h] at p;cases p),λj r => ?_⟩;by_cases g:j=i
  .subst g;exact B.wpOp hi y ⟨λ_=>y,H⟩
  have:=ready_mono r g;rw[H.1] at this;cases this
 | succ fuel ih =>
  intro d a w q p hc B y H;refine⟨λh=>(by rw[h] at p;cases p),λj r => ?_⟩;by_cases g:j=i
  .subst g;exact B.wpOp hi y ⟨λ_=>y,H⟩
  have l:=H.2 j (ready_mono r g);obtain⟨s,n,x,F⟩:=mem_ready.1 r;have z:¬d.getD i false=true:=λl=>by
   have V:=(mem_ready.1 p).1;rcases Nat.lt_or_ge i d.size with J|J
   .simp[J] at V l;rw[V] at l;cases l
   simp[Array.getElem?_eq_none J] at l
  have G:∀e∈n.after,Region.binds .any e=true->e.on≠i:=λe W Y U=>by
   have l:=F e W Y;rw[U] at l;exact z l
  have K:T j=false:=by
   cases hq:T j
   .rfl
   exact absurd (yb hc N j i (Bc r) (hT j hq)) z
  have X:=wpOp_putIf x (q j n x g s G) (λcs b=>u i m cs b hi) (λcs b=>u j n cs b x) hQ B l;have t:∀k ok,f[k]?=some ok->k≠i->(d.setIfInBounds j true).getD k true=false ->
    (∀e∈ok.after,Region.binds .any e=true->e.on≠i)->m.apart f ok=true:=λk ok hk M E L=>by
   refine q k ok hk M ?_ L;by_cases D:j=k
   .subst D;exact s
   rw[getD_set_ne true D] at E;exact E
  refine wpOp_mono (λa' w' A=>⟨A.2.1,ih (d.setIfInBounds j true) a' w' t (ready_mono p (Ne.symm g)) (hc.set r) A.1 (A.2.1 K) ?_⟩) X;rw[Array.setIfInBounds_comm _ _ g];exact A.2.2
def Cz(o:Oper):Bool:=Ok o||match o.op with
 | .extract ..=>true
 | .build ..=>true
 | .field ..=>true
 | .index ..=>true
 | .unOp ..=>true
 | .convert ..=>true
 | _=>false
theorem Uv{o:Oper}{ρ:Operand->Value}{b:World}{n:Next}(a:Cz o=true)(h:(execOp ρ o).run P w = .ok n b):∃v,n = .value v:=by
 unfold Cz at a;rw[Bool.or_eq_true] at a;rcases a with a|a
 .exact Lr a h
 unfold execOp at h
 split at a
 all_goals first
  | (cases a;done)
  | (rename_i hx;rw[hx] at h;exact aab h)
theorem wi{P:Program}{l:List Oper}{Q:Exit->Act->World->Prop}{S:World->Prop}{T:Nat->Bool}{N:Nat}{K:Act->Prop}{w:World}{fuel:Nat}(hs:Region.noSelect l.toArray=true)(f:S w)(q:∀c a a' w,Q (.panic c) a w->Q (.panic c) a' w):
  ∀(d:List Nat) (os:List Oper) (b:Array Bool) (a:Act),Bv l.toArray d b=true->(∀k∈d,T k=false/\∀j,T j=true->Cp l.toArray N j k=true)->pa l.toArray b->d.map (λk=>l[k]?)=os.map some->(os.all Cz)=true ->
   wpQuiet P l.toArray S K os a->(∀a,K a->pa l.toArray (kc b d)->rp P l.toArray Q S T fuel (kc b d) a w)->rp P l.toArray Q S T (d.length+fuel) b a w
 | [],[],b,a,_,_,hc,_,_,h,hK=>by rw[List.length_nil,Nat.zero_add];exact hK a h hc
 | k :: d,o :: os,b,a,hB,hTk,hc,hk,hv,h,hK=>by
  simp only[List.map_cons,List.cons.injEq] at hk;simp only[List.all_cons,Xxx] at hv;simp only[Bv,Xxx] at hB;rw[List.length_cons,Nat.add_right_comm];have e:k∈Region.ready .any l.toArray b:=by simpa using hB.1.1
  have go:∀v,YieldsIf P l.toArray S o v a->rp P l.toArray Q S T (d.length+fuel) (b.setIfInBounds k true) (a.put o.dst v) w->rp P l.toArray Q S T (d.length+fuel+1) b a w :=
   λv A z=>Ts (N:=N) (by simpa using hk.1) (Region.noSelect_spec hs) (λc a w i=>q _ _ _ _ i) (hTk k (by simp)).2 (hTk k (by simp)).1 _ b a w (Region.free_spec (by simpa using hk.1) hB.1.2) e hc A f z
  have again:=λ(a:Act) (i:wpQuiet P l.toArray S K os a)=>wi (N:=N) (T:=T) (fuel:=fuel) hs f q d os _ a hB.2 (λy r=>hTk y (by simp[r])) (hc.set e) hk.2 hv.2 i hK;unfold wpQuiet at h
  split at h
  .rename_i g;obtain⟨v,t,s⟩:=h;refine go v (.inl ⟨g,λp f => ?_⟩) (again _ s);have:=t p f;unfold Oper.quietAt at this;cases m:(execOp a.eval o).run P p with
   | ok n w2 =>
    rw[m] at this;obtain⟨u,rfl⟩:=Uv hv.1 m;simp only[Oper.quietUpon] at this;rw[this.1,this.2]
   | halt x w2=>rw[m] at this;exact this.elim
  rename_i g;exact go undef (.inr ⟨by simpa using g,rfl⟩) (again _ h)
 | [],_ :: _,_,_,_,_,_,hk,_,_,_=>by simp at hk
 | _ :: _,[],_,_,_,_,_,hk,_,_,_=>by simp at hk
def gy(t:Bool)(S:World->Prop)(w:World):Prop:=t=false->S w
theorem gy.yes:gy true S w:=λh=>by cases h
theorem gy.no(h:S w):gy false S w:=λ_=>h
def Ko(P:Program)(ops:Array Oper)(Q:Exit->Act->World->Prop)(S:World->Prop):List (Bool × Nat)->Act->World->Prop
 | [],a,w=>Q .normal a w
 | (t,i) :: r,a,w=>wpOp P ops Q i (λa' w'=>gy t S w'/\Ko P ops Q S r a' w') a w
def J0(ops:Array Oper):List (Bool × Nat)->Array Bool->Bool
 | [],listed=>Region.ready .any ops listed==[]
 | (t,i) :: r,listed=>Region.ready .any ops listed==[i]&&J0 ops r (listed.setIfInBounds i true)
theorem Bk{P:Program}{d:Array Oper}{Q:Exit->Act->World->Prop}{S:World->Prop}{T:Nat->Bool}:∀(c:List (Bool × Nat)) (b:Array Bool) (a:Act) (w:World),
   J0 d c b=true->(∀t i,(t,i)∈c->T i=t)->Ko P d Q S c a w->rp P d Q S T c.length b a w
 | [],b,a,w,hB,_,h=>⟨by simpa[J0] using hB,h⟩
 | (t,i) :: r,b,a,w,hB,hT,h=>by
  simp only[J0,Xxx,beq_iff_eq] at hB;refine⟨λk=>absurd (hB.1.symm.trans k) (by simp),λj e => ?_⟩;rw[hB.1,List.mem_singleton] at e;subst e;refine wpOp_mono (λm l g=>⟨?_,Bk r _ m l hB.2 (λt i f=>hT t i (by simp[f])) g.2⟩) h;rw[hT t j (by simp)];exact g.1
theorem l8{b:Array Oper}{a:Act}(h:K a w):wpList P b (Exit.then K Q) [] a w:=by unfold wpList;exact h
theorem cf{l:List Oper}{r:List (Bool × Nat)}{t:Bool}(k:Nat){o:Oper}{a:Act}(d:l[k]?=some o)
  (h:wpList P l.toArray (Exit.then (λc b=>gy t S b/\Ko P l.toArray Q S r c b) Q) [o] a w):Ko P l.toArray Q S ((t,k) :: r) a w :=
 aq k d h
def uc(ops:Array Oper)(rem:List Nat)(L:Array Bool):Bool :=
 (List.range ops.size).all (λi=>L.getD i true||rem.contains i||rem.all (λr=>Cp ops ops.size i r)) &&
 Rh ops L [] rem&&rem.all (λr=>decide (r<ops.size) && !L.getD r true)&&decide (L.size=ops.size)&&decide ((rem.map (az ops)).Nodup)
theorem Zk{c:Array Oper}{T:Nat->Bool}{b:List Nat}{L:Array Bool}{D:Nat->Value->List Nat->World->Prop}{fuel:Nat}(hB:uc c b L=true)(hT:∀r∈b,T r=false)
  (mono:∀j∈b,∀v g w z,Below w.heap.size w z->D j v g w->D j v g z) (lt:∀j∈b,∀v g w,D j v g w->∀x∈g,x<w.heap.size)
  (step:∀i∈b,∀(V:Nat->Value) (G:Nat->List Nat) (w:World) (K:Act->World->Prop),S w->(∀d∈l9 c i,d∈b->D d (V d) (G d) w) ->
   (∀v g z,S z->Below w.heap.size w z->(∀x∈g,w.heap.size<=x)->D i v g z->K ((ap c b V a1).put (az c i) v) z)->wpOp P c Q i K (ap c b V a1) w)
  (done:∀(V:Nat->Value) (G:Nat->List Nat) (w:World),S w->(∀j∈b,D j (V j) (G j) w)->(∀j∈b,∀k∈b,j≠k->∀x∈G j,x ∉ G k)->rp P c Q S T fuel (kc L b) (ap c b V a1) w) :
  ∀(m:Nat) (a:Array Bool) (V:Nat->Value) (G:Nat->List Nat) (w:World),(b.filter (λr => !a.getD r true)).length=m->a.size=c.size->(∀j,j ∉ b->a[j]?=L[j]?)->pa c a->S w->(∀j∈b,a.getD j true=true->D j (V j) (G j) w) ->
   (∀j∈b,∀k∈b,a.getD j true=true->a.getD k true=true->j≠k->∀x∈G j,x ∉ G k)->rp P c Q S T (m+fuel) a (ap c b V a1) w:=by
 simp only[uc,Xxx,decide_eq_true_eq] at hB;obtain⟨⟨⟨⟨aw,ah⟩,ax⟩,bk⟩,an⟩:=hB;have s:∀r∈b,r<c.size/\L.getD r true=false:=λr hr=>by
  have:=List.all_eq_true.1 ax r hr
  simpa using this
 intro m
 induction m with
 | zero =>
  intro a V G w hm J E ab hS W hA;have A:∀r∈b,a.getD r true=true:=λr hr=>by
   cases hq:a.getD r true
   .have:r∈b.filter (λr => !a.getD r true):=List.mem_filter.2 ⟨hr,by simp[hq]⟩;rw[List.length_eq_zero_iff.1 hm] at this;simp at this
   rfl
  have hl:a=kc L b:=by
   apply Array.ext_getElem?
   intro j;by_cases f:j<L.size
   .rw[Ho b L j f];by_cases U:j∈b
    .rw[if_pos U];have p:=A j U;have l:j<a.size:=by omega
     simp only[Array.getD,l,dif_pos] at p;simp[l];exact p
    rw[if_neg U];exact E j U
   rw[Array.getElem?_eq_none (by omega),Array.getElem?_eq_none (by rw[Fd];omega)]
  rw[Nat.zero_add,hl];exact done V G w hS (λj f=>W j f (A j f)) λj f k X=>hA j f k X (A j f) (A k X)
 | succ m ih =>
  intro a V G w hm J E ab hS W hA;have aj:∃r∈b,a.getD r true=false:=by
   have a5:b.filter (λr => !a.getD r true)≠[]:=λe=>by rw[e] at hm;simp at hm
   obtain⟨x,hx⟩:=List.exists_mem_of_ne_nil _ a5;have:=List.mem_filter.1 hx;exact⟨x,this.1,by simpa using this.2⟩
  have a3:∀d,L.getD d false=true->a.getD d false=true:=λd hd=>by
   by_cases F:d∈b
   .have p:=(s d F).2;have l:d<L.size:=by have:=(s d F).1;omega
    simp only[Array.getD,l,dif_pos] at p hd;rw[p] at hd;cases hd
   have p:=E d F;by_cases l:d<L.size
   .have h3:d<a.size:=by omega
    simp only[Array.getD,l,h3,dif_pos] at hd ⊢;simp only[Array.getElem?_eq_getElem l,Array.getElem?_eq_getElem h3,Qkx] at p;rw[Array.getInternal_eq_getElem] at hd ⊢;rw[p];exact hd
   simp[Array.getD,l] at hd
  obtain⟨r0,bj,ar⟩:=Dp J [] b ah a3 (λd hd=>by simp at hd) (λr hr=>(s r hr).1) aj;rw[Nat.add_right_comm];refine⟨λh0=>absurd (h0▸ar) (by simp),λi hi => ?_⟩;obtain⟨H,o,ho,aq⟩:=mem_ready.1 hi;have ag:∀d∈l9 c i,a.getD d false=true:=λd hd=>by
   unfold l9 at hd;rw[ho] at hd;obtain⟨e,he,rfl⟩:=List.mem_map.1 hd;have:=List.mem_filter.1 he;exact aq e (by simpa using this.1) this.2
  have ai:∀d,a.getD d false=true->a.getD d true=true:=λd hd=>by
   by_cases l:d<a.size
   .simpa[Array.getD,l] using hd
   simp[Array.getD,l]
  have B:i∈b:=by
   cases hc:b.contains i;rotate_left
   .exact Qjz hc
   exfalso;have bc:i<c.size:=(Qkq ho).1;have a4:i ∉ b:=λh=>by
    have:=List.contains_iff_mem.2 h;rw[this] at hc;cases hc
   have p:=List.all_eq_true.1 aw i (List.mem_range.2 bc);have bb:L.getD i true=false:=by
    have l:=E i a4;have h3:i<L.size:=by omega
    have h4:i<a.size:=by omega
    simp only[Array.getElem?_eq_getElem h3,Array.getElem?_eq_getElem h4,Qkx] at l;simp only[Array.getD,h3,h4,dif_pos] at H ⊢;rw[Array.getInternal_eq_getElem] at H ⊢;rw[<-l];exact H
   rw[bb,hc] at p;simp only[Bool.false_or] at p;obtain⟨q,hq,a2⟩:=aj;have h5:=List.all_eq_true.1 p q hq;have h6:=ai q (yb ab _ i q (Bc hi) h5);rw[a2] at h6;cases h6
  refine step i B V G w _ hS (λd hd F=>W d F (ai d (ag d hd))) (λv g z am au ak bd => ?_);refine⟨λ_=>am,?_⟩;rw[Dk an B];have a9:i<a.size:=by rw[J];exact(s i B).1
  have t:∀j,(a.setIfInBounds i true).getD j true=if j=i then true else a.getD j true:=λj=>by
   by_cases f:j=i
   .subst f;simp[Array.getD,a9]
   rw[if_neg f,getD_set_ne true (λe=>f e.symm)]
  refine ih (a.setIfInBounds i true) (upd V i v) (λj=>if j=i then g else G j) z ?_ (by simpa using J) (λj f => ?_) (ab.set hi) am (λj f y => ?_) (λj f k X y M al x hx => ?_)
  .have ac:b.Nodup:=by
    exact(List.pairwise_map.1 an).imp (λh e=>h (by rw[e]))
   have e1:(b.filter (λr => !a.getD r true))=b.filter (λr => !a.getD r true):=rfl;have Y:(b.filter (λr => !(a.setIfInBounds i true).getD r true))=(b.filter (λr => !a.getD r true)).erase i:=by
    have e2:b.filter (λr => !(a.setIfInBounds i true).getD r true)=(b.filter (λr => !a.getD r true)).filter (λr=>r !=i):=by
     rw[List.filter_filter];refine List.filter_congr λx hx => ?_;rw[t x];by_cases a7:x=i<;>simp[a7]
    rw[e2,<-List.Nodup.erase_eq_filter (ac.filter _)]
   rw[Y,List.length_erase_of_mem (List.mem_filter.2 ⟨B,by simp[H]⟩),hm]
   rfl
  .rw[Array.getElem?_setIfInBounds,if_neg (λe:i=j=>f (by rw[<-e];exact B))];exact E j f
  .unfold upd;by_cases n:j=i
   .subst n;rw[if_pos rfl,if_pos rfl];exact bd
   rw[if_neg n,if_neg n];rw[t j,if_neg n] at y;exact mono j f _ _ _ _ au (W j f y)
  by_cases n:j=i
  .have u:¬k=i:=λe=>al (n.trans e.symm);rw[if_pos n] at hx;rw[if_neg u];rw[t k,if_neg u] at M;intro aa;have p:=ak x hx;have l:=lt k X _ _ _ (W k X M) x aa;omega
  rw[if_neg n] at hx;rw[t j,if_neg n] at y;by_cases u:k=i
  .rw[if_pos u];intro aa;have p:=ak x aa;have l:=lt j f _ _ _ (W j f y) x hx;omega
  rw[if_neg u];rw[t k,if_neg u] at M;exact hA j f k X y M al x hx
def adr(P:Program)(ops:Array Oper)(Q:Exit->Act->World->Prop)(S:World->Prop)(rem:List Nat)(ord:List (Bool × Nat))(a1:Act):Prop :=
 ∃D:Nat->Value->List Nat->World->Prop,(∀j∈rem,∀v g w w',Below w.heap.size w w'->D j v g w->D j v g w')/\(∀j∈rem,∀v g w,D j v g w->∀x∈g,x<w.heap.size) /\
  (∀i∈rem,∀(V:Nat->Value) (G:Nat->List Nat) (w:World) (K:Act->World->Prop),S w->(∀d∈l9 ops i,d∈rem->D d (V d) (G d) w) ->
   (∀v g w',S w'->Below w.heap.size w w'->(∀x∈g,w.heap.size<=x)->D i v g w'->K ((ap ops rem V a1).put (az ops i) v) w')->wpOp P ops (NoPanic Q) i K (ap ops rem V a1) w) /\
  (∀(V:Nat->Value) (G:Nat->List Nat) (w:World),S w->(∀j∈rem,D j (V j) (G j) w)->(∀j∈rem,∀k∈rem,j≠k->∀x∈G j,x ∉ G k)->Ko P ops (NoPanic Q) S ord (ap ops rem V a1) w)
def Z7(ops:Array Oper)(ks rem:List Nat)(ord:List (Bool × Nat)):Bool :=
 ks.all (λk => !ord.contains (true,k)&&ord.all (λx => !x.1||Cp ops ops.size x.2 k))&&rem.all (λr => !ord.contains (true,r))&&ord.all (λx=>x.1 || !ord.contains (true,x.2))
theorem fh{l:List Oper}{a:Act}(S:World->Prop)(e b:List Nat)(d:List (Bool × Nat))(F:S w.drew)(h:wpQuiet P l.toArray S (adr P l.toArray Q S b d) (du l e) a)(J:P.follows .mixedOrders=true:=by kernel_rfl)(hs:Region.noSelect l.toArray=true:=by kernel_rfl)(U:Bv l.toArray e (Array.replicate l.length false)=true:=by kernel_rfl)(x:e.all (λk=>decide (k<l.length))=true:=by kernel_rfl)(hv:((du l e).all Cz)=true:=by kernel_rfl)(E:uc l.toArray b (kc (Array.replicate l.length false) e)=true:=by kernel_rfl)(m:Z7 l.toArray e b d=true:=by kernel_rfl)(X:J0 l.toArray d (kc (kc (Array.replicate l.length false) e) b)=true:=by kernel_rfl)(M:e.length+(b.length+d.length)=l.length:=by kernel_rfl):(Code.region R l.toArray true).wp P Q a w:=by
 refine wp_region_noPanic (wp_region_any J ?_);have n:=E;simp only[uc,Xxx,decide_eq_true_eq] at n;simp only[Z7,Xxx] at m;have W:∀j,(d.contains (true,j))=true->(true,j)∈d:=λj h=>by simpa using h
 have key:=wi (Q:=NoPanic Q) (T:=λi=>d.contains (true,i)) (N:=l.toArray.size) (fuel:=b.length+d.length) (w:=w.drew) hs F (λc a a' w h=>(h:False).elim) e (du l e) _ a U (λk B => ?_) (pa.none _ _) (Ei x) hv h (λa1 K A => ?_)
 .have:=zh _ _ _ _ key;rw[M] at this
  simpa using this
 .have q:=List.all_eq_true.1 m.1.1 k B;simp only[Xxx] at q;refine⟨by simpa using q.1,λj g => ?_⟩;have h2:=List.all_eq_true.1 q.2 (true,j) (W j g)
  simpa using h2
 obtain⟨D,mono,lt,step,done⟩:=K;have s:(b.filter (λr => !(kc (Array.replicate l.length false) e).getD r true))=b:=by
  rw[List.filter_eq_self];intro r v;have:=List.all_eq_true.1 n.1.1.2 r v;simp only[Xxx] at this;exact this.2
 have p:∀j∈b,(kc (Array.replicate l.length false) e).getD j true=true->False:=λj g f=>by
  have:=List.all_eq_true.1 n.1.1.2 j g;simp only[Xxx,f] at this;simp at this
 obtain⟨u,z⟩:∃u,ap l.toArray b u a1=a1:=⟨_,z4 a1 b⟩;have:=Zk (P:=P) (Q:=NoPanic Q) (S:=S) (T:=λi=>d.contains (true,i)) (a1:=a1) (fuel:=d.length) E (λr v=>by have:=List.all_eq_true.1 m.1.2 r v;simpa using this) mono lt step
  (λV G y H L Y=>Bk d _ _ y X (λt i o=>by
   cases t with
   | true=>simpa using o
   | false =>
    have:=List.all_eq_true.1 m.2 (false,i) o
    simpa using this) (done V G y H L Y))
  b.length (kc (Array.replicate l.length false) e) u (λ_=>[]) w.drew (by rw[s]) n.1.2 (λ_ _=>rfl) A F (λj g f=>(p j g f).elim) (λj g k B f _ _=>(p j g f).elim)
 rw[z] at this;exact this
theorem ad0(f:Nat)(caps:Array Value)(bad:Nat->Bool)(a:Option Addr)(n c:Nat)(w:World)(F:n<=c)(hc:c<=maxLen)(z:Nat->Od)(u:Ch w a n z)
  (E:∀args w,(callFunc f args).run prog w = .ok (.enter f args) w)
  (D:Hid (∀i d,i<n->Below w.heap.size w d->Calls prog f (#[(z i).val]++caps) d λe q=>e = .returned (.bool (bad i))/\Below d.heap.size d q)) :
  Calls prog 128 #[.slice a n c,.func (.func f) #[] caps] w λe q=>∃r:Int,e = .returned (.int .i64 r)/\decide (0<=r)=ax n bad/\Below w.heap.size w q:=by
 unfold maxLen at hc;go_enter func128,ntmps128;go_wp2_with fail
 go_loopw [8] (λi d=>∃k:Nat,k<=n/\i = .int .i64 k/\(∀j,j<k->bad j=false)/\Below w.heap.size w d) (λi _=>n-(intOf i).toNat)
 case atStart=>exact⟨0,Qxz _,rfl,λj v=>absurd v (Qzq _),Below.refl _ _⟩
 obtain⟨k,G,rfl,m,l⟩:=hrel;have A:=hid m;clear m;by_cases g:k<n;rotate_left
 .go_wp2_with fail;go_ret;have s:k=n:=by omega
  subst s;exact⟨_,rfl,by rw[cu A.out];decide,l⟩
 obtain⟨b,o,rfl,_,y,B,_⟩:=(u.below l) k g;clear u;go_wp2_with fail;refine(D.out k wr g l).mono ?_;rintro e d ⟨rfl,t⟩;have p:=l.trans (t.mono l.size);cases h:bad k
 .go_wp2_with fail;go_roundw
  case measure=>simp[intOf];omega
  refine⟨k+1,by omega,by go_num,?_,p⟩;intro j v;by_cases x:j=k
  .rw[x,h]
  exact A.out j (by omega)
 go_wp2_with fail;go_ret;exact⟨_,rfl,by rw[dv g h];simp,p⟩
theorem abz(f:Nat)(caps:Array Value)(bad:Nat->Bool)(a:Option Addr)(n c:Nat)(w:World)(p:n<=c)(hc:c<=maxLen)(z:Nat->Od)(j:Ch w a n z)
  (l:∀args w,(callFunc f args).run prog w = .ok (.enter f args) w)
  (o:Hid (∀i b,i<n->Below w.heap.size w b->Calls prog f (#[(z i).val]++caps) b λe d=>e = .returned (.bool (bad i))/\Below b.heap.size b d)) :
  Calls prog 69 #[.slice a n c,.func (.func f) #[] caps] w λe d=>e = .returned (.bool (ax n bad))/\Below w.heap.size w d:=by
 have g:=hc;unfold maxLen at hc;go_enter func69,ntmps69;go_wp2_with fail;refine(ad0 f caps bad a n c w p g z j l o).mono ?_;rintro e b ⟨r,rfl,h,k⟩;have m:=hid h;clear h;go_wp2_with fail;go_ret;exact⟨by rw[<-m.out];rfl,k⟩
theorem ady(f:Nat)(caps:Array Value)(bad:Nat->Bool)(a:Option Addr)(n c:Nat)(w:World)(H:n<=c)(hc:c<=maxLen)(z:Nat->Hd)(v:jj w a n z)
  (G:∀args w,(callFunc f args).run prog w = .ok (.enter f args) w)
  (F:Hid (∀i d,i<n->Below w.heap.size w d->Calls prog f (#[(z i).val]++caps) d λe q=>e = .returned (.bool (bad i))/\Below d.heap.size d q)) :
  Calls prog 129 #[.slice a n c,.func (.func f) #[] caps] w λe q=>∃r:Int,e = .returned (.int .i64 r)/\decide (0<=r)=ax n bad/\Below w.heap.size w q:=by
 unfold maxLen at hc;go_enter func129,ntmps129;go_wp2_with fail
 go_loopw [8] (λi d=>∃k:Nat,k<=n/\i = .int .i64 k/\(∀j,j<k->bad j=false)/\Below w.heap.size w d) (λi _=>n-(intOf i).toNat)
 case atStart=>exact⟨0,Qxz _,rfl,λj x=>absurd x (Qzq _),Below.refl _ _⟩
 obtain⟨k,J,rfl,m,l⟩:=hrel;have D:=hid m;clear m;by_cases g:k<n;rotate_left
 .go_wp2_with fail;go_ret;have s:k=n:=by omega
  subst s;exact⟨_,rfl,by rw[cu D.out];decide,l⟩
 obtain⟨b,o,rfl,_,B,E,t,y⟩:=(v.below l) k g;clear v;go_wp2_with fail;refine(F.out k wr g l).mono ?_;rintro e d ⟨rfl,u⟩;have p:=l.trans (u.mono l.size);cases h:bad k
 .go_wp2_with fail;go_roundw
  case measure=>simp[intOf];omega
  refine⟨k+1,by omega,by go_num,?_,p⟩;intro j x;by_cases A:j=k
  .rw[A,h]
  exact D.out j (by omega)
 go_wp2_with fail;go_ret;exact⟨_,rfl,by rw[dv g h];simp,p⟩
theorem M7(f:Nat)(caps:Array Value)(bad:Nat->Bool)(a:Option Addr)(n c:Nat)(w:World)(p:n<=c)(hc:c<=maxLen)(z:Nat->Hd)(j:jj w a n z)
  (l:∀args w,(callFunc f args).run prog w = .ok (.enter f args) w)
  (o:Hid (∀i b,i<n->Below w.heap.size w b->Calls prog f (#[(z i).val]++caps) b λe d=>e = .returned (.bool (bad i))/\Below b.heap.size b d)) :
  Calls prog 73 #[.slice a n c,.func (.func f) #[] caps] w λe d=>e = .returned (.bool (ax n bad))/\Below w.heap.size w d:=by
 have g:=hc;unfold maxLen at hc;go_enter func73,ntmps73;go_wp2_with fail;refine(ady f caps bad a n c w p g z j l o).mono ?_;rintro e b ⟨r,rfl,h,k⟩;have m:=hid h;clear h;go_wp2_with fail;go_ret;exact⟨by rw[<-m.out];rfl,k⟩
theorem adw(f:Nat)(caps:Array Value)(bad:Nat->Bool)(a:Option Addr)(n c:Nat)(w:World)(H:n<=c)(hc:c<=maxLen)(z:Nat->Hd)(v:jj w a n z)
  (G:∀args w,(callFunc f args).run prog w = .ok (.enter f args) w)
  (F:Hid (∀i d,i<n->Below w.heap.size w d->Calls prog f (#[(z i).val]++caps) d λe q=>e = .returned (.bool (bad i))/\Below d.heap.size d q)) :
  Calls prog 133 #[.slice a n c,.func (.func f) #[] caps] w λe q=>∃r:Int,e = .returned (.int .i64 r)/\decide (0<=r)=ax n bad/\Below w.heap.size w q:=by
 unfold maxLen at hc;go_enter func133,ntmps133;go_wp2_with fail
 go_loopw [8] (λi d=>∃k:Nat,k<=n/\i = .int .i64 k/\(∀j,j<k->bad j=false)/\Below w.heap.size w d) (λi _=>n-(intOf i).toNat)
 case atStart=>exact⟨0,Qxz _,rfl,λj x=>absurd x (Qzq _),Below.refl _ _⟩
 obtain⟨k,J,rfl,m,l⟩:=hrel;have D:=hid m;clear m;by_cases g:k<n;rotate_left
 .go_wp2_with fail;go_ret;have s:k=n:=by omega
  subst s;exact⟨_,rfl,by rw[cu D.out];decide,l⟩
 obtain⟨b,o,rfl,_,B,E,t,y⟩:=(v.below l) k g;clear v;go_wp2_with fail;refine(F.out k wr g l).mono ?_;rintro e d ⟨rfl,u⟩;have p:=l.trans (u.mono l.size);cases h:bad k
 .go_wp2_with fail;go_roundw
  case measure=>simp[intOf];omega
  refine⟨k+1,by omega,by go_num,?_,p⟩;intro j x;by_cases A:j=k
  .rw[A,h]
  exact D.out j (by omega)
 go_wp2_with fail;go_ret;exact⟨_,rfl,by rw[dv g h];simp,p⟩
theorem adu(f:Nat)(caps:Array Value)(bad:Nat->Bool)(a:Option Addr)(n c:Nat)(w:World)(p:n<=c)(hc:c<=maxLen)(z:Nat->Hd)(j:jj w a n z)
  (l:∀args w,(callFunc f args).run prog w = .ok (.enter f args) w)
  (o:Hid (∀i b,i<n->Below w.heap.size w b->Calls prog f (#[(z i).val]++caps) b λe d=>e = .returned (.bool (bad i))/\Below b.heap.size b d)) :
  Calls prog 76 #[.slice a n c,.func (.func f) #[] caps] w λe d=>e = .returned (.bool (ax n bad))/\Below w.heap.size w d:=by
 have g:=hc;unfold maxLen at hc;go_enter func76,ntmps76;go_wp2_with fail;refine(adw f caps bad a n c w p g z j l o).mono ?_;rintro e b ⟨r,rfl,h,k⟩;have m:=hid h;clear h;go_wp2_with fail;go_ret;exact⟨by rw[<-m.out];rfl,k⟩
theorem adz(f:Nat)(caps:Array Value)(bad:Nat->Bool)(a:Option Addr)(n c:Nat)(w:World)(H:n<=c)(hc:c<=maxLen)(z:Nat->Hd)(v:jj w a n z)
  (G:∀args w,(callFunc f args).run prog w = .ok (.enter f args) w)
  (F:Hid (∀i d,i<n->Below w.heap.size w d->Calls prog f (#[(z i).val]++caps) d λe q=>e = .returned (.bool (bad i))/\Below d.heap.size d q)) :
  Calls prog 134 #[.slice a n c,.func (.func f) #[] caps] w λe q=>∃r:Int,e = .returned (.int .i64 r)/\decide (0<=r)=ax n bad/\Below w.heap.size w q:=by
 unfold maxLen at hc;go_enter func134,ntmps134;go_wp2_with fail
 go_loopw [8] (λi d=>∃k:Nat,k<=n/\i = .int .i64 k/\(∀j,j<k->bad j=false)/\Below w.heap.size w d) (λi _=>n-(intOf i).toNat)
 case atStart=>exact⟨0,Qxz _,rfl,λj x=>absurd x (Qzq _),Below.refl _ _⟩
 obtain⟨k,J,rfl,m,l⟩:=hrel;have D:=hid m;clear m;by_cases g:k<n;rotate_left
 .go_wp2_with fail;go_ret;have s:k=n:=by omega
  subst s;exact⟨_,rfl,by rw[cu D.out];decide,l⟩
 obtain⟨b,o,rfl,_,B,E,t,y⟩:=(v.below l) k g;clear v;go_wp2_with fail;refine(F.out k wr g l).mono ?_;rintro e d ⟨rfl,u⟩;have p:=l.trans (u.mono l.size);cases h:bad k
 .go_wp2_with fail;go_roundw
  case measure=>simp[intOf];omega
  refine⟨k+1,by omega,by go_num,?_,p⟩;intro j x;by_cases A:j=k
  .rw[A,h]
  exact D.out j (by omega)
 go_wp2_with fail;go_ret;exact⟨_,rfl,by rw[dv g h];simp,p⟩
theorem adv(f:Nat)(caps:Array Value)(bad:Nat->Bool)(a:Option Addr)(n c:Nat)(w:World)(p:n<=c)(hc:c<=maxLen)(z:Nat->Hd)(j:jj w a n z)
  (l:∀args w,(callFunc f args).run prog w = .ok (.enter f args) w)
  (o:Hid (∀i b,i<n->Below w.heap.size w b->Calls prog f (#[(z i).val]++caps) b λe d=>e = .returned (.bool (bad i))/\Below b.heap.size b d)) :
  Calls prog 77 #[.slice a n c,.func (.func f) #[] caps] w λe d=>e = .returned (.bool (ax n bad))/\Below w.heap.size w d:=by
 have g:=hc;unfold maxLen at hc;go_enter func77,ntmps77;go_wp2_with fail;refine(adz f caps bad a n c w p g z j l o).mono ?_;rintro e b ⟨r,rfl,h,k⟩;have m:=hid h;clear h;go_wp2_with fail;go_ret;exact⟨by rw[<-m.out];rfl,k⟩
end Go.Proofs.YtbcacebifpagpagGreat
