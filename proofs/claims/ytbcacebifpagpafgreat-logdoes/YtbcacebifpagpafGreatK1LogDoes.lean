/- Texts that were built one behind the other, joined; what LogDoes does not reach is left out. -/
import Derived.WalkKit
import Derived.Test.YtbcacebifpagpafGreatRows
import Derived.Laws.EntriesVeiled
import Derived.WalkSpells
import Derived.WalkLawsBesides
import Derived.Deep.QuietTactic
import Derived.BigQuiet
import Derived.Deep.RegionHeld3
import Derived.Shelf.Abstract
import Derived.Maps.AppendAt
import Derived.Orders
import Derived.Lib.QuietBelow
import Derived.Lib.AppendZerosOnto
import Derived.Lib.Walk
import Derived.Lib.SliceRun
import Derived.Laws.AppendOwnNone
import Derived.Deep.OwnRows
import Derived.BigRegion
set_option maxHeartbeats 4000000
set_option maxRecDepth 100000
set_option linter.unusedVariables false
namespace Go.Proofs.YtbcacebifpagpafGreat
variable{b n g A l o i m q j R M N:Nat}{w a c d:World}{r W J K:Int}{e t:TypeId}{Q:Exit->Act->World->Prop}{f f':Nat->Value}{v c1 c3 c2:Value}{U:List Value}{P:Program}{V X:Int->Int->Int}{Y:Array Oper}{S:World->Prop}{a1:Act}{z' zs:Nat->Int}{L:Array Bool}
open _root_.Go.Proofs.Tryz
open Go.RowKit
abbrev Qqq:=@Go.cell_regrown
abbrev Qqx:=@Go.regrown_of_below
abbrev Qqz:=@Go.wpQuiet_nil
abbrev Qxq:=@Go.wp_region_quiet_below
abbrev Qxx:=@Go.below_regrown
abbrev Qxz:=@Nat.zero_le
abbrev Qzq:=@Nat.not_lt_zero
abbrev Qzx:=@Nat.le_trans
abbrev Qzz:=@Int.eq_ofNat_of_zero_le
abbrev Qjq.{u}:=@List.forall_mem_nil.{u}
theorem Qjx.{u}{α:Type u}{p:α->Prop}{a:α}{l:List α}(h:p a/\∀x,x∈l->p x):∀x,x∈a::l->p x:=List.forall_mem_cons.2 h
theorem Qjz.{u}{α:Type u}[BEq α][LawfulBEq α]{a:α}{s:List α}(h:s.contains a=true):a∈s:=List.contains_iff_mem.1 h
theorem Qkq.{u}{α:Type u}{b:α}{s:Array α}(h:s[i]?=some b):∃h:i<s.size,s[i]=b:=Array.getElem?_eq_some_iff.1 h
abbrev Qkx.{u}:=@Option.some.injEq.{u}
abbrev Qkz:=@Go.Addr.mk.injEq
abbrev Qvq.{u}:=@List.setIfInBounds_toArray.{u}
abbrev Qvx.{u}:=@List.getElem?_cons_zero.{u}
abbrev Qvz.{u}:=@List.getElem?_toArray.{u}
abbrev Qwq.{u}:=@List.getElem?_cons_succ.{u}
abbrev Qwx.{u}:=@List.set_cons_succ.{u}
abbrev Qwz.{u}:=@List.set_cons_zero.{u}
abbrev Qyq.{u}:=@List.drop_succ_cons.{u}
abbrev Qyx.{u}:=@List.take_succ_cons.{u}
abbrev Qyz.{u}:=@List.take_zero.{u}
abbrev Xqq.{u}:=@List.drop_zero.{u}
abbrev Xqx.{u}:=@List.nil_append.{u}
abbrev Xqz.{u}:=@List.cons_append.{u}
abbrev Xxq:=@Bool.or_eq_false_iff
abbrev Xxx:=@Bool.and_eq_true
abbrev Xxz:=@Calls.regrown_of
abbrev Xzq:=@bodyPost_ret
abbrev Xzx:=@Nat.lt_of_lt_of_le
theorem qa2{b a:Prop}(c:b)(d:a):Go.RowKit.Hid (b/\a):=⟨c,d⟩
theorem qa3{b a c:Prop}(e:b)(f:a)(d:c):Go.RowKit.Hid (b/\a/\c):=⟨e,f,d⟩
theorem qa4{c a d b:Prop}(g:c)(h:a)(f:d)(e:b):Go.RowKit.Hid (c/\a/\d/\b):=⟨g,h,f,e⟩
theorem qa5{d b a c e:Prop}(i:d)(j:b)(h:a)(g:c)(f:e):Go.RowKit.Hid (d/\b/\a/\c/\e):=⟨i,j,h,g,f⟩
theorem qa6{e c b d f a:Prop}(k:e)(l:c)(j:b)(i:d)(h:f)(g:a):Go.RowKit.Hid (e/\c/\b/\d/\f/\a):=⟨k,l,j,i,h,g⟩
theorem qa7{f d c e g b a:Prop}(m:f)(n:d)(l:c)(k:e)(i:g)(h:b)(j:a):Go.RowKit.Hid (f/\d/\c/\e/\g/\b/\a):=⟨m,n,l,k,i,h,j⟩
theorem qa8{g d c e h b a f:Prop}(o:g)(p:d)(n:c)(m:e)(j:h)(i:b)(k:a)(l:f):Go.RowKit.Hid (g/\d/\c/\e/\h/\b/\a/\f):=⟨o,p,n,m,j,i,k,l⟩
theorem hid{p:Prop}(h:p):Go.RowKit.Hid p:=h
theorem nlr:n<=n:=Nat.le_refl n
theorem brf{B:Nat}:Go.RowKit.Below B w w:=Go.RowKit.Below.refl B w
theorem ag{f:Nat}{args:Array Value}{R:Ending->World->Prop}
  (h:Calls P f args w λe a=>e = .returned v/\a=w) (k:R (.returned v) w):Calls P f args w R :=
 h.mono (by rintro e a ⟨rfl,rfl⟩;exact k)
def inB(n low high:Int):Bool:=decide (low<=n/\n<=high)
theorem aq{n:Int}(h:inB n r W=true):r<=n/\n<=W:=by simpa[inB] using h
theorem N0{n:Int}(h:inB n r W=false):¬(r<=n/\n<=W):=by simpa[inB] using h
theorem bq{n:Int}(h:r<=n/\n<=W):inB n r W=true:=by simpa[inB] using h
theorem We{n:Int}(h:¬(r<=n/\n<=W)):inB n r W=false:=by simpa[inB] using h
def aw(n:Nat)(bad:Nat->Bool):Bool:=(List.range n).any bad
theorem cu{bad:Nat->Bool}(h:∀j,j<n->bad j=false):aw n bad=false:=by
 unfold aw;rw[List.any_eq_false];intro x hx;simp[h x (List.mem_range.1 hx)]
theorem du{k:Nat}{bad:Nat->Bool}(a:k<n)(h:bad k=true):aw n bad=true:=by
 unfold aw;rw[List.any_eq_true];exact⟨k,List.mem_range.2 a,h⟩
theorem dj{bad:Nat->Bool}(h:aw n bad=false):∀j,j<n->bad j=false:=by
 intro j b;cases a:bad j
 .rfl
 rw[du b a] at h;cases h
theorem Ww{bad:Nat->Bool}(h:aw n bad=true):∃j,j<n/\bad j=true:=by
 unfold aw at h;rw[List.any_eq_true] at h;obtain⟨x,hx,a⟩:=h;exact⟨x,List.mem_range.1 hx,a⟩
theorem nz{f g:Nat->Bool}(h:∀j,j<n->f j=g j):aw n f=aw n g:=by
 cases b:aw n g
 .exact cu λj a=>(h j a).trans (dj b j a)
 obtain⟨j,a,c⟩:=Ww b;exact du a ((h j a).trans c)
theorem Dr(n:Nat)(f:Nat->Bool):aw (n+1) f=(aw n f||f n):=by
 unfold aw;rw[List.range_succ];simp
structure Bin where
 front:Bool
 room:Int
 low:Int
 high:Int
def Bin.val(x:Bin):Value := .agg #[.bool x.front,.int .i64 x.room,.int .i64 x.low,.int .i64 x.high]
def qe(x:Bin):Bool := !inB x.room 0 1000 || !inB x.low 0 x.high||decide (200<x.high)
def pv(x:Int):Bool := !inB x 1 9
def po(x:Int):Bool := !inB x 0 200
theorem Dv(x:Bin):qe x=(!inB x.room 0 1000 || !inB x.high 0 200 || !inB x.low 0 x.high):=by
 unfold qe inB;rw[Bool.eq_iff_iff];simp only[Bool.or_eq_true,Bool.not_eq_true',decide_eq_true_eq,decide_eq_false_iff_not];omega
def vr(w:World)(a:Option Addr)(n:Nat)(z:Nat->Int):Prop :=
 ∀i,i<n->∃b o,a=some ⟨b,o,none⟩/\b<w.heap.size/\w.cell? ⟨b,o+i,none⟩=some (.int .i64 (z i))
theorem vr.below{a:Option Addr}{z:Nat->Int}(h:vr w a n z)(e:Below w.heap.size w d):vr d a n z:=by
 intro i hi;obtain⟨b,o,f,c,hc⟩:=h i hi;exact⟨b,o,f,Xzx c e.size,(e.cell (p:=⟨b,o+i,none⟩) c).trans hc⟩
def sl(w:World)(a:Option Addr)(n:Nat)(z:Nat->Bin):Prop :=
 ∀i,i<n->∃b o,a=some ⟨b,o,none⟩/\b<w.heap.size/\w.cell? ⟨b,o+i*4,none⟩=some (.bool (z i).front) /\
  w.cell? ⟨b,o+i*4+1,none⟩=some (.int .i64 (z i).room)/\w.cell? ⟨b,o+i*4+2,none⟩=some (.int .i64 (z i).low) /\
  w.cell? ⟨b,o+i*4+3,none⟩=some (.int .i64 (z i).high)
theorem sl.below{e:World}{a:Option Addr}{z:Nat->Bin}(h:sl w a n z)(d:Below w.heap.size w e):sl e a n z:=by
 intro i hi;obtain⟨b,o,k,c,j,l,g,f⟩:=h i hi;exact⟨b,o,k,Xzx c d.size,(d.cell (p:=⟨b,o+i*4,none⟩) c).trans j,(d.cell (p:=⟨b,o+i*4+1,none⟩) c).trans l,
  (d.cell (p:=⟨b,o+i*4+2,none⟩) c).trans g,(d.cell (p:=⟨b,o+i*4+3,none⟩) c).trans f⟩
structure Rw where
 a:Option Addr
 n:Nat
 c:Nat
 z:Nat->Int
def Rw.val(r:Rw):Value := .slice r.a r.n r.c
structure Rw.At(w:World)(r:Rw):Prop where
 le:r.n<=r.c
 cap:r.c<=maxLen
 ints:vr w r.a r.n r.z
theorem Rw.At.below{r:Rw}(h:r.At w)(b:Below w.heap.size w a):r.At a:=⟨h.le,h.cap,h.ints.below b⟩
def Ew(w:World)(a:Option Addr)(n:Nat)(r:Nat->Rw):Prop :=
 ∀i,i<n->∃b o,a=some ⟨b,o,none⟩/\b<w.heap.size/\w.cell? ⟨b,o+i,none⟩=some (.slice (r i).a (r i).n (r i).c)/\(r i).At w
theorem Ew.below{e:World}{a:Option Addr}{z:Nat->Rw}(h:Ew w a n z)(c:Below w.heap.size w e):Ew e a n z:=by
 intro i hi;obtain⟨b,o,g,d,hc,f⟩:=h i hi;exact⟨b,o,g,Xzx d c.size,(c.cell (p:=⟨b,o+i,none⟩) d).trans hc,f.below c⟩
structure Pl where
 ab:Option Addr
 nb:Nat
 cb:Nat
 zb:Nat->Bin
 sa:Option Addr
 ns:Nat
 cs:Nat
 zs:Nat->Int
variable{p:Pl}
def Pl.val(p:Pl):Value := .agg #[.slice p.ab p.nb p.cb,.slice p.sa p.ns p.cs]
structure Pl.At(w:World)(p:Pl):Prop where
 leb:p.nb<=p.cb
 capb:p.cb<=maxLen
 bins:sl w p.ab p.nb p.zb
 les:p.ns<=p.cs
 caps:p.cs<=maxLen
 sizes:vr w p.sa p.ns p.zs
theorem Pl.At.below{b:World}(h:p.At w)(a:Below w.heap.size w b):p.At b:=⟨h.leb,h.capb,h.bins.below a,h.les,h.caps,h.sizes.below a⟩
def iz(p:Pl):Int :=
 if inB p.nb 1 6&&inB p.ns 1 3 then(if aw p.nb (λi=>qe (p.zb i))||aw p.ns (λi=>pv (p.zs i)) then 3 else 0) else 2
structure Sh where
 a:Option Addr
 n:Nat
 c:Nat
 r:Nat->Rw
def Sh.val(s:Sh):Value := .slice s.a s.n s.c
structure Sh.At(w:World)(s:Sh):Prop where
 le:s.n<=s.c
 cap:s.c<=maxLen
 rows:Ew w s.a s.n s.r
theorem Sh.At.below{s:Sh}(h:s.At w)(b:Below w.heap.size w a):s.At a:=⟨h.le,h.cap,h.rows.below b⟩
def ou(p:Pl)(r:Rw):Bool:=((r.n:Int) !=(p.ns:Int))||aw r.n (λi=>po (r.z i))
def ey(p:Pl)(s:Sh):Int :=
 if iz p==0 then(if ((s.n:Int) !=(p.nb:Int))||aw s.n (λi=>ou p (s.r i)) then 1 else 0) else iz p
structure P9(p:Pl):Prop where
 nb1:1<=p.nb
 nb6:p.nb<=6
 ns1:1<=p.ns
 ns3:p.ns<=3
 bins:∀i,i<p.nb->qe (p.zb i)=false
 sizes:∀i,i<p.ns->1<=p.zs i/\p.zs i<=9
theorem Lt(h:iz p=0):P9 p:=by
 unfold iz at h;cases d:(inB p.nb 1 6&&inB p.ns 1 3)
 .simp[d] at h
 rw[d] at h;simp only[if_true] at h;cases e:(aw p.nb (λi=>qe (p.zb i))||aw p.ns (λi=>pv (p.zs i)))
 .rw[Xxx] at d;have a:=aq d.1;have b:=aq d.2;rw[Xxq] at e;refine⟨by omega,by omega,by omega,by omega,dj e.1,λi hi => ?_⟩;have c:=dj e.2 i hi;simp only[pv,Bool.not_eq_false'] at c;exact aq c
 simp[e] at h
structure tr(p:Pl)(s:Sh):Prop where
 pl:P9 p
 n:s.n=p.nb
 len:∀i,i<s.n->(s.r i).n=p.ns
 num:∀i,i<s.n->∀j,j<p.ns->0<=(s.r i).z j/\(s.r i).z j<=200
theorem ts{s:Sh}(h:ey p s=0):iz p=0/\tr p s:=by
 unfold ey at h;by_cases d:iz p=0;rotate_left
 .simp[d] at h
 simp only[d,beq_self_eq_true,if_true] at h;cases e:(((s.n:Int) !=(p.nb:Int))||aw s.n (λi=>ou p (s.r i)))
 .rw[Xxq] at e;obtain⟨a,b⟩:=e;have g:s.n=p.nb:=by have l:(s.n:Int)=(p.nb:Int):=(by simpa using a);omega
  have f:∀i,i<s.n->(s.r i).n=p.ns/\∀j,j<(s.r i).n->po ((s.r i).z j)=false:=by
   intro i hi;have c:=dj b i hi;simp only[ou,Xxq] at c;exact⟨by have l:((s.r i).n:Int)=(p.ns:Int):=(by simpa using c.1);omega,dj c.2⟩
  refine⟨d,Lt d,g,λi hi=>(f i hi).1,λi hi j k => ?_⟩;have c:=(f i hi).2 j (by rw[(f i hi).1];exact k);simp only[po,Bool.not_eq_false'] at c;exact aq c
 simp[e] at h
def ff(z zs:Nat->Int):Nat->Int
 | 0=>0
 | k+1=>ff z zs k+z k*zs k
def cv(z:Nat->Int):Nat->Int
 | 0=>0
 | k+1=>cv z k+z k
theorem Cw{a b:Int}(c:0<=a/\a<=200)(d:1<=b/\b<=9):0<=a*b/\a*b<=1800:=by
 obtain⟨e,a1⟩:=c;have:b=1\/b=2\/b=3\/b=4\/b=5\/b=6\/b=7\/b=8\/b=9:=by omega
 rcases this with rfl|rfl|rfl|rfl|rfl|rfl|rfl|rfl|rfl<;>omega
theorem vt{z zs:Nat->Int}{n:Nat}(h:∀j,j<n->(0<=z j/\z j<=200)/\1<=zs j/\zs j<=9):∀k,k<=n->0<=ff z zs k/\ff z zs k<=1800*k
 | 0,_=>by simp[ff]
 | k+1,hk=>by
  have a:=vt h k (by omega);have:=Cw (h k (by omega)).1 (h k (by omega)).2;simp only[ff];omega
theorem C7{z:Nat->Int}{n:Nat}(h:∀j,j<n->0<=z j/\z j<=200):∀k,k<=n->0<=cv z k/\cv z k<=200*k
 | 0,_=>by simp[cv]
 | k+1,hk=>by
  have a:=C7 h k (by omega);have:=h k (by omega);simp only[cv];omega
theorem C1{z z' zs:Nat->Int}:∀{n:Nat},(∀j,j<n->z j=z' j)->ff z zs n=ff z' zs n
 | 0,_=>rfl
 | n+1,h=>by simp only[ff];rw[C1 (n:=n) λj a=>h j (by omega),h n (by omega)]
theorem rb{z z':Nat->Int}:∀{n:Nat},(∀j,j<n->z j=z' j)->cv z n=cv z' n
 | 0,_=>rfl
 | n+1,h=>by simp only[cv];rw[rb (n:=n) λj a=>h j (by omega),h n (by omega)]
def ui(p:Pl)(s:Sh)(bin:Int):Int:=if ey p s==0 then(if inB bin 0 ((s.n:Int)-1) then 0 else 3) else ey p s
def Fx(p:Pl)(s:Sh)(bin:Int):Int:=if ui p s bin==0 then ff (s.r bin.toNat).z p.zs p.ns else 0
def Fz(p:Pl)(s:Sh)(good:Int):Int:=if ey p s==0 then(if inB good 0 ((p.ns:Int)-1) then 0 else 3) else ey p s
def Ks(p:Pl)(s:Sh)(good:Int):Int:=if Fz p s good==0 then cv (λi=>(s.r i).z good.toNat) s.n else 0
def t9(p:Pl)(s:Sh)(bin good:Int):Int:=if ey p s==0 then(if inB bin 0 ((p.nb:Int)-1)&&inB good 0 ((p.ns:Int)-1) then 0 else 3) else ey p s
def Eg(p:Pl)(s:Sh)(bin good n:Int):Int :=
 if t9 p s bin good==0 then(if inB n (-((s.r bin.toNat).z good.toNat)) (200-(s.r bin.toNat).z good.toNat) then 0 else 3) else t9 p s bin good
def El(s:Sh)(bin good n:Int)(i j:Nat):Int:=if i=bin.toNat/\j=good.toNat then(s.r i).z j+n else(s.r i).z j
def Le(p:Pl)(s:Sh)(bin good n:Int)(w':World)(v:Value):Prop :=
 if Eg p s bin good n=0 then ∃s':Sh,v=s'.val/\s'.At w'/\s'.n=s.n/\∀i,i<s.n->(s'.r i).n=(s.r i).n/\∀j,j<(s.r i).n->(s'.r i).z j=El s bin good n i j
 else v = .slice none 0 0
theorem Le.below{s:Sh}{bin good n:Int}{b:World}(h:Le p s bin good n w v)(f:Below w.heap.size w b):Le p s bin good n b v:=by
 unfold Le at *
 split
 .rename_i a;rw[if_pos a] at h;obtain⟨e,g,d,c⟩:=h;exact⟨e,g,d.below f,c⟩
 rename_i a
 rwa[if_neg a] at h
theorem Ej{s:Sh}{bin good:Int}(a:ey p s=0):t9 p s bin good=if inB bin 0 ((s.n:Int)-1)&&inB good 0 ((p.ns:Int)-1) then 0 else 3:=by
 have:=(ts a).2.n;simp[t9,a,this]
def z9(z:Int):UInt8:=UInt8.ofNat (z%256).toNat
theorem Tr(z:Int):((z9 z).toNat:Int)=z%256:=by
 unfold z9;have c:0<=z%256:=Int.emod_nonneg _ (by decide);have b:z%256<256:=Int.emod_lt_of_pos _ (by decide);have a:(UInt8.ofNat (z%256).toNat).toNat=(z%256).toNat%256:=rfl;rw[a];omega
def sq(z:Int):Bool := !inB z 0 255
def rdN(t:List UInt8)(i:Nat):Int:=((t.getD i 0).toNat:Int)
theorem V8(t:List UInt8)(i:Nat):0<=rdN t i/\rdN t i<=255:=by
 unfold rdN;have:=(t.getD i 0).toNat_lt;omega
theorem cn(n low high:Int)(w:World):
  Calls prog 48 #[.int .i64 n,.int .i64 low,.int .i64 high] w λe a=>e = .returned (.bool (inB n low high))/\a=w:=by
 unfold inB;go_enter func48,ntmps48
 go_wp2
 all_goals go_ret
 all_goals refine⟨?_,rfl⟩
 all_goals simp
 all_goals omega
theorem cf(n low high:Int)(w:World):
  Calls prog 44 #[.int .i64 n,.int .i64 low,.int .i64 high] w λe a=>e = .returned (.bool (inB n low high))/\a=w:=by
 unfold inB;go_enter func44,ntmps44
 go_wp2
 all_goals go_ret
 all_goals refine⟨?_,rfl⟩
 all_goals simp
 all_goals omega
theorem Ng(x:Bin)(w:World):
  Calls prog 152 #[x.val] w λe a=>e = .returned (.bool (qe x))/\Below w.heap.size w a:=by
 unfold qe Bin.val;go_enter func152,ntmps152;go_wp2_with(go_at_call 48;refine ag (cn _ _ _ _) ?_)
 all_goals go_ret
 all_goals exact⟨by simp[*],brf.alloc nlr _⟩
theorem Nr(x:Int)(w:World):
  Calls prog 153 #[.int .i64 x] w λe a=>e = .returned (.bool (pv x))/\a=w:=by
 unfold pv;go_enter func153,ntmps153;go_wp2_with(go_at_call 48;refine ag (cn _ _ _ _) ?_)
 all_goals go_ret
 all_goals exact⟨rfl,rfl⟩
theorem acm(f:Nat)(caps:Array Value)(bad:Nat->Bool)(a:Option Addr)(n c:Nat)(w:World)(F:n<=c)(hc:c<=maxLen)(z:Nat->Int)(u:vr w a n z)
  (E:∀args w,(callFunc f args).run prog w = .ok (.enter f args) w)
  (B:Hid (∀i d,i<n->Below w.heap.size w d->Calls prog f (#[.int .i64 (z i)]++caps) d λe q=>e = .returned (.bool (bad i))/\Below d.heap.size d q)) :
  Calls prog 147 #[.slice a n c,.func (.func f) #[] caps] w λe q=>∃r:Int,e = .returned (.int .i64 r)/\decide (0<=r)=aw n bad/\Below w.heap.size w q:=by
 unfold maxLen at hc;go_enter func147,ntmps147;go_wp2_with fail
 go_loopw [8] (λi d=>∃k:Nat,k<=n/\i = .int .i64 k/\(∀j,j<k->bad j=false)/\Below w.heap.size w d) (λi _=>n-(intOf i).toNat)
 case atStart=>exact⟨0,Qxz _,rfl,λj s=>absurd s (Qzq _),Below.refl _ _⟩
 obtain⟨k,D,rfl,p,g⟩:=hrel;have v:=hid p;clear p;by_cases h:k<n;rotate_left
 .go_wp2_with fail;go_ret;have t:k=n:=by omega
  subst t;exact⟨_,rfl,by rw[cu v.out];decide,g⟩
 obtain⟨b,o,rfl,_,A⟩:=(u.below g) k h;clear u;go_wp2_with fail;refine(B.out k wr h g).mono ?_;rintro e d ⟨rfl,x⟩;have m:=g.trans (x.mono g.size);cases l:bad k
 .go_wp2_with fail;go_roundw
  case measure=>simp[intOf];omega
  refine⟨k+1,by omega,by go_num,?_,m⟩;intro j s;by_cases y:j=k
  .rw[y,l]
  exact v.out j (by omega)
 go_wp2_with fail;go_ret;exact⟨_,rfl,by rw[du h l];simp,m⟩
theorem acx(f:Nat)(caps:Array Value)(bad:Nat->Bool)(a:Option Addr)(n c:Nat)(w:World)(E:n<=c)(hc:c<=maxLen)(r:Nat->Rw)(u:Ew w a n r)
  (D:∀args w,(callFunc f args).run prog w = .ok (.enter f args) w)
  (A:Hid (∀i d,i<n->Below w.heap.size w d->Calls prog f (#[.slice (r i).a (r i).n (r i).c]++caps) d λe q=>e = .returned (.bool (bad i))/\Below d.heap.size d q)) :
  Calls prog 155 #[.slice a n c,.func (.func f) #[] caps] w λe q=>∃r:Int,e = .returned (.int .i64 r)/\decide (0<=r)=aw n bad/\Below w.heap.size w q:=by
 unfold maxLen at hc;go_enter func155,ntmps155;go_wp2_with fail
 go_loopw [8] (λi d=>∃k:Nat,k<=n/\i = .int .i64 k/\(∀j,j<k->bad j=false)/\Below w.heap.size w d) (λi _=>n-(intOf i).toNat)
 case atStart=>exact⟨0,Qxz _,rfl,λj s=>absurd s (Qzq _),Below.refl _ _⟩
 obtain⟨k,B,rfl,p,g⟩:=hrel;have v:=hid p;clear p;by_cases h:k<n;rotate_left
 .go_wp2_with fail;go_ret;have t:k=n:=by omega
  subst t;exact⟨_,rfl,by rw[cu v.out];decide,g⟩
 obtain⟨b,o,rfl,_,z,_⟩:=(u.below g) k h;clear u;go_wp2_with fail;refine(A.out k wr h g).mono ?_;rintro e d ⟨rfl,x⟩;have m:=g.trans (x.mono g.size);cases l:bad k
 .go_wp2_with fail;go_roundw
  case measure=>simp[intOf];omega
  refine⟨k+1,by omega,by go_num,?_,m⟩;intro j s;by_cases y:j=k
  .rw[y,l]
  exact v.out j (by omega)
 go_wp2_with fail;go_ret;exact⟨_,rfl,by rw[du h l];simp,m⟩
theorem acs(f:Nat)(caps:Array Value)(bad:Nat->Bool)(a:Option Addr)(n c:Nat)(w:World)(J:n<=c)(hc:c<=maxLen)(z:Nat->Bin)(B:sl w a n z)
  (H:∀args w,(callFunc f args).run prog w = .ok (.enter f args) w)
  (F:Hid (∀i d,i<n->Below w.heap.size w d->Calls prog f (#[(z i).val]++caps) d λe q=>e = .returned (.bool (bad i))/\Below d.heap.size d q)) :
  Calls prog 162 #[.slice a n c,.func (.func f) #[] caps] w λe q=>∃r:Int,e = .returned (.int .i64 r)/\decide (0<=r)=aw n bad/\Below w.heap.size w q:=by
 unfold maxLen at hc;go_enter func162,ntmps162;go_wp2_with fail
 go_loopw [8] (λi d=>∃k:Nat,k<=n/\i = .int .i64 k/\(∀j,j<k->bad j=false)/\Below w.heap.size w d) (λi _=>n-(intOf i).toNat)
 case atStart=>exact⟨0,Qxz _,rfl,λj y=>absurd y (Qzq _),Below.refl _ _⟩
 obtain⟨k,G,rfl,p,l⟩:=hrel;have v:=hid p;clear p;by_cases g:k<n;rotate_left
 .go_wp2_with fail;go_ret;have s:k=n:=by omega
  subst s;exact⟨_,rfl,by rw[cu v.out];decide,l⟩
 obtain⟨b,o,rfl,_,t,D,u,A⟩:=(B.below l) k g;clear B;go_wp2_with fail;refine(F.out k wr g l).mono ?_;rintro e d ⟨rfl,E⟩;have m:=l.trans (E.mono l.size);cases h:bad k
 .go_wp2_with fail;go_roundw
  case measure=>simp[intOf];omega
  refine⟨k+1,by omega,by go_num,?_,m⟩;intro j y;by_cases x:j=k
  .rw[x,h]
  exact v.out j (by omega)
 go_wp2_with fail;go_ret;exact⟨_,rfl,by rw[du g h];simp,m⟩
theorem Yh(f:Nat)(caps:Array Value)(bad:Nat->Bool)(a:Option Addr)(n c:Nat)(w:World)(o:n<=c)(hc:c<=maxLen)(z:Nat->Int)(j:vr w a n z)
  (k:∀args w,(callFunc f args).run prog w = .ok (.enter f args) w)
  (p:Hid (∀i b,i<n->Below w.heap.size w b->Calls prog f (#[.int .i64 (z i)]++caps) b λe d=>e = .returned (.bool (bad i))/\Below b.heap.size b d)) :
  Calls prog 121 #[.slice a n c,.func (.func f) #[] caps] w λe d=>e = .returned (.bool (aw n bad))/\Below w.heap.size w d:=by
 have h:=hc;unfold maxLen at hc;go_enter func121,ntmps121;go_wp2_with fail;refine(acm f caps bad a n c w o h z j k p).mono ?_;rintro e b ⟨r,rfl,g,m⟩;have l:=hid g;clear g;go_wp2_with fail;go_ret;exact⟨by rw[<-l.out];rfl,m⟩
theorem aco(f:Nat)(caps:Array Value)(bad:Nat->Bool)(a:Option Addr)(n c:Nat)(w:World)(o:n<=c)(hc:c<=maxLen)(r:Nat->Rw)(j:Ew w a n r)
  (k:∀args w,(callFunc f args).run prog w = .ok (.enter f args) w)
  (p:Hid (∀i b,i<n->Below w.heap.size w b->Calls prog f (#[.slice (r i).a (r i).n (r i).c]++caps) b λe d=>e = .returned (.bool (bad i))/\Below b.heap.size b d)) :
  Calls prog 122 #[.slice a n c,.func (.func f) #[] caps] w λe d=>e = .returned (.bool (aw n bad))/\Below w.heap.size w d:=by
 have h:=hc;unfold maxLen at hc;go_enter func122,ntmps122;go_wp2_with fail;refine(acx f caps bad a n c w o h r j k p).mono ?_;rintro e b ⟨r,rfl,g,m⟩;have l:=hid g;clear g;go_wp2_with fail;go_ret;exact⟨by rw[<-l.out];rfl,m⟩
theorem abr(f:Nat)(caps:Array Value)(bad:Nat->Bool)(a:Option Addr)(n c:Nat)(w:World)(o:n<=c)(hc:c<=maxLen)(z:Nat->Bin)(j:sl w a n z)
  (k:∀args w,(callFunc f args).run prog w = .ok (.enter f args) w)
  (p:Hid (∀i b,i<n->Below w.heap.size w b->Calls prog f (#[(z i).val]++caps) b λe d=>e = .returned (.bool (bad i))/\Below b.heap.size b d)) :
  Calls prog 154 #[.slice a n c,.func (.func f) #[] caps] w λe d=>e = .returned (.bool (aw n bad))/\Below w.heap.size w d:=by
 have h:=hc;unfold maxLen at hc;go_enter func154,ntmps154;go_wp2_with fail;refine(acs f caps bad a n c w o h z j k p).mono ?_;rintro e b ⟨r,rfl,g,m⟩;have l:=hid g;clear g;go_wp2_with fail;go_ret;exact⟨by rw[<-l.out];rfl,m⟩
open Go.Shelf
theorem Vn(c:Below w.heap.size w a):(∀b o,b<w.heap.size->a.cell? ⟨b,o,none⟩=w.cell? ⟨b,o,none⟩)/\(∀b o,b<w.heap.size->a.frozen? ⟨b,o,none⟩=w.frozen? ⟨b,o,none⟩):=
 ⟨λb o h=>c.cell (p:=⟨b,o,none⟩) h,λb o h=>c.frozen (p:=⟨b,o,none⟩) h⟩
theorem yq(p:Pl)(w:World)(q:p.At w):
  Calls prog 118 #[p.val] w λe r=>e = .returned (.int .i64 (iz p))/\Below w.heap.size w r:=by
 obtain⟨leb,capb,bins,les,caps,sizes⟩:=q;have d:=capb;have c:=caps;unfold Pl.val;unfold maxLen at capb caps;have b1:=bins.below ((Below.refl w.heap.size w).alloc nlr (.cells #[.slice p.ab p.nb p.cb,.slice p.sa p.ns p.cs] 25));cases b:inB p.nb 1 6
 .go_enter func118,ntmps118;go_wp2_with(go_at_call 48;refine ag (cn _ _ _ _) ?_);go_ret;exact⟨by simp[iz,b],brf.alloc nlr _⟩
 cases f:inB p.ns 1 3
 .go_enter func118,ntmps118;go_wp2_with(go_at_call 48;refine ag (cn _ _ _ _) ?_);go_ret;exact⟨by simp[iz,f],brf.alloc nlr _⟩
 go_enter func118,ntmps118;go_wp2_with(go_at_call 48;refine ag (cn _ _ _ _) ?_);refine(abr 152 #[] (λi=>qe (p.zb i)) _ _ _ _ leb d p.zb b1 (enters_of func152 (by kernel_rfl) rfl) (λi m _ _=>by rw[Array.append_empty];exact Ng _ _)).mono ?_;rintro e m ⟨rfl,n⟩;obtain⟨hc,s⟩:=Vn n;have a:Below w.heap.size w m:=((Below.refl w.heap.size w).alloc nlr _).trans (n.mono (by simp));have s1:=sizes.below a;cases l:aw p.nb (λi=>qe (p.zb i))
 .go_wp2_with fail;refine(Yh 153 #[] (λi=>pv (p.zs i)) _ _ _ _ les c p.zs s1 (enters_of func153 (by kernel_rfl) rfl) (λi o _ _=>by rw[Array.append_empty];exact(Nr _ _).mono λ_ _ h=>⟨h.1,h.2▸Below.refl _ _⟩)).mono ?_;rintro e o ⟨rfl,j⟩;have g:=a.trans (j.mono a.size);cases k:aw p.ns (λi=>pv (p.zs i))
  .go_wp2_with fail;go_ret;exact⟨by simp[iz,b,f,l,k],g⟩
  go_wp2_with fail;go_ret;exact⟨by simp[iz,b,f,k],g⟩
 go_wp2_with fail;go_ret;exact⟨by simp[iz,b,f,l],a⟩
theorem J6(p:Pl)(w:World)(E:p.At w):
  Calls prog 157 #[p.val] w λe D=>e = .returned (.int .i64 (iz p))/\Below w.heap.size w D:=by
 obtain⟨ab,nb,cb,zb,sa,ns,cs,zs⟩:=p;obtain⟨leb,capb,bins,les,caps,sizes⟩:=E;dsimp only at leb capb bins les caps sizes;simp only[Pl.val];unfold maxLen at capb caps;cases v:inB nb 1 6
 .go_enter func157,ntmps157;go_wp2_with(go_at_call 44;refine ag (cf _ _ _ _) ?_);go_ret;exact⟨by simp[iz,v],brf.alloc nlr _⟩
 cases x:inB ns 1 3
 .go_enter func157,ntmps157;go_wp2_with(go_at_call 44;refine ag (cf _ _ _ _) ?_);go_ret;exact⟨by simp[iz,x],brf.alloc nlr _⟩
 have a:=qa2 v x;go_enter func157,ntmps157;go_wp2_with(go_at_call 44;refine ag (cf _ _ _ _) ?_);clear v x
 go_loopw [3] (λi t=>∃k:Nat,k<=nb/\i = .int .i64 k/\(∀j,j<k->qe (zb j)=false)/\Below (w.heap.size+1) (w.alloc (.cells #[.slice ab nb cb,.slice sa ns cs] 25)) t) (λi _=>nb-(intOf i).toNat)
 case atStart=>exact⟨0,Qxz _,rfl,λj m=>absurd m (Qzq _),Below.refl _ _⟩
 obtain⟨k,z,rfl,h,f⟩:=hrel;have q:=hid h;clear h;have c:Below w.heap.size w wr:=((Below.refl w.heap.size w).alloc nlr _).trans (f.mono (by omega));have hs:w.heap.size+1<=wr.heap.size:=by have:=f.size;simpa using this
 have A:wr.cell? ⟨w.heap.size,0,none⟩=some (.slice ab nb cb):=(f.cell (p:=⟨w.heap.size,0,none⟩) (by simp)).trans (by simp);have c1:wr.cell? ⟨w.heap.size,1,none⟩=some (.slice sa ns cs):=(f.cell (p:=⟨w.heap.size,1,none⟩) (by simp)).trans (by simp);by_cases g:k<nb
 .obtain⟨b,o,rfl,J,F,K,L,M⟩:=(bins.below c) k g;have l:=Dv (zb k);cases d:qe (zb k)
  .rw[d] at l;have B:inB (zb k).room 0 1000=true/\inB (zb k).high 0 200=true/\inB (zb k).low 0 (zb k).high=true:=by simpa[and_assoc] using l.symm
   obtain⟨s,y,G⟩:=B;clear l;go_wp2_with(go_at_call 44;refine ag (cf _ _ _ _) ?_);go_roundw
   case measure=>simp[intOf];omega
   refine⟨k+1,by omega,by go_num,?_,f.alloc (by simpa using hs) _⟩;intro j m;by_cases r:j=k
   .rw[r,d]
   exact q.out j (by omega)
  rw[d] at l;have n:Hid (aw nb (λi=>qe (zb i))=true):=du g d;cases s:inB (zb k).room 0 1000
  .clear l;go_wp2_with(go_at_call 44;refine ag (cf _ _ _ _) ?_);go_ret;exact⟨by simp[iz,a.out.1,a.out.2,n.out],c.alloc (by omega) _⟩
  cases y:inB (zb k).high 0 200
  .clear l;go_wp2_with(go_at_call 44;refine ag (cf _ _ _ _) ?_);go_ret;exact⟨by simp[iz,a.out.1,a.out.2,n.out],c.alloc (by omega) _⟩
  have G:inB (zb k).low 0 (zb k).high=false:=by simpa[s,y] using l.symm
  clear l;go_wp2_with(go_at_call 44;refine ag (cf _ _ _ _) ?_);go_ret;exact⟨by simp[iz,a.out.1,a.out.2,n.out],c.alloc (by omega) _⟩
 go_wp2_with fail;have n:aw nb (λi=>qe (zb i))=false:=cu λj m=>q.out j (by omega);have H:=hid n;clear n g q bins
 go_loopw [5] (λi t=>∃k:Nat,k<=ns/\i = .int .i64 k/\(∀j,j<k->pv (zs j)=false)/\Below (w.heap.size+1) (w.alloc (.cells #[.slice ab nb cb,.slice sa ns cs] 25)) t) (λi _=>ns-(intOf i).toNat)
 case atStart=>exact⟨0,Qxz _,rfl,λj m=>absurd m (Qzq _),f⟩
 clear f c hs A c1;obtain⟨k,z,rfl,h,f⟩:=hrel;have q:=hid h;clear h;have c:Below w.heap.size w wr:=((Below.refl w.heap.size w).alloc nlr _).trans (f.mono (by omega));have c1:wr.cell? ⟨w.heap.size,1,none⟩=some (.slice sa ns cs):=(f.cell (p:=⟨w.heap.size,1,none⟩) (by simp)).trans (by simp);by_cases g:k<ns
 .obtain⟨b,o,rfl,J,F⟩:=(sizes.below c) k g;cases s:inB (zs k) 1 9
  .have u:Hid (aw ns (λi=>pv (zs i))=true):=du g (by simp[pv,s]);go_wp2_with(go_at_call 44;refine ag (cf _ _ _ _) ?_);go_ret;exact⟨by simp[iz,a.out.1,a.out.2,u.out],c⟩
  have d:Hid (pv (zs k)=false):=by show pv (zs k)=false;simp[pv,s]
  go_wp2_with(go_at_call 44;refine ag (cf _ _ _ _) ?_);go_roundw
  case measure=>simp[intOf];omega
  refine⟨k+1,by omega,by go_num,?_,f⟩;intro j m;by_cases r:j=k
  .rw[r,d.out]
  exact q.out j (by omega)
 go_wp2_with fail;go_ret;have u:aw ns (λi=>pv (zs i))=false:=cu λj m=>q.out j (by omega);exact⟨by simp[iz,a.out.1,a.out.2,H.out,u],c⟩
theorem Lc(x:Int)(w:World):
  Calls prog 119 #[.int .i64 x] w λe a=>e = .returned (.bool (po x))/\a=w:=by
 unfold po;go_enter func119,ntmps119;go_wp2_with(go_at_call 48;refine ag (cn _ _ _ _) ?_)
 all_goals go_ret
 all_goals exact⟨rfl,rfl⟩
theorem Lr(B f:Nat)(p:Pl)(r:Rw)(w:World)(k:r.At w)(les:p.ns<=p.cs)(caps:p.cs<=maxLen)
  (c1:w.cell? ⟨B,1,none⟩=some (.slice p.sa p.ns p.cs)) (c2:w.cell? ⟨f,0,none⟩=some (.func (.func 119) #[] #[])) :
  Calls prog 120 #[.slice r.a r.n r.c,.pointer (some ⟨B,0,none⟩),.pointer (some ⟨f,0,none⟩)] w λe o=>e = .returned (.bool (ou p r))/\Below w.heap.size w o:=by
 obtain⟨g,b,ints⟩:=k;have d:=b;unfold maxLen at b caps;cases j:((r.n:Int) !=(p.ns:Int))
 .go_enter func120,ntmps120;go_wp2_with fail;refine(Yh 119 #[] (λi=>po (r.z i)) _ _ _ _ g d r.z ints (enters_of func119 (by kernel_rfl) rfl) (λi l _ _=>by rw[Array.append_empty];exact(Lc _ _).mono λ_ _ h=>⟨h.1,h.2▸Below.refl _ _⟩)).mono ?_;rintro e l ⟨rfl,m⟩;go_wp2_with fail;go_ret;exact⟨by simp[ou,j],m⟩
 go_enter func120,ntmps120;go_wp2_with fail;go_ret;exact⟨by simp[ou,j],Below.refl _ _⟩
theorem xt(p:Pl)(s:Sh)(w:World)(f:p.At w)(hs:s.At w):
  Calls prog 71 #[p.val,s.val] w λe B=>e = .returned (.int .i64 (ey p s))/\Below w.heap.size w B:=by
 obtain⟨x,g,rows⟩:=hs;have j:=g;unfold maxLen at g;have leb:=f.leb;have capb:=f.capb;unfold maxLen at capb;have o:Below w.heap.size w (w.alloc (.cells #[.slice p.ab p.nb p.cb,.slice p.sa p.ns p.cs] 25)):=(Below.refl w.heap.size w).alloc nlr _;simp only[Pl.val,Sh.val];go_enter func71,ntmps71;go_wp2_with fail;refine(yq p _ (f.below o)).mono ?_;rintro e b ⟨rfl,h⟩;have d:=o.trans (h.mono (by simp));have t:w.heap.size<b.heap.size:=by have:=h.size;simp at this;omega
 have D:b.cell? ⟨w.heap.size,0,none⟩=some (.slice p.ab p.nb p.cb):=(h.cell (p:=⟨w.heap.size,0,none⟩) (by simp)).trans (by simp);have c1:b.cell? ⟨w.heap.size,1,none⟩=some (.slice p.sa p.ns p.cs):=(h.cell (p:=⟨w.heap.size,1,none⟩) (by simp)).trans (by simp);by_cases l:iz p=0;rotate_left
 .go_wp2_with fail;go_ret;exact⟨by simp[ey,l],d⟩
 cases u:((s.n:Int) !=(p.nb:Int));rotate_left
 .go_wp2_with fail;go_ret;exact⟨by simp[ey,l,u],d.alloc (by omega) _⟩
 go_wp2_with fail;have m:=d.alloc (by omega) (.cells #[Value.func (Fn.func 119) #[] #[]] 149);have c:=rows.below m;refine(aco 120 #[.pointer (some ⟨w.heap.size,0,none⟩),.pointer (some ⟨b.heap.size,0,none⟩)] (λi=>ou p (s.r i)) _ _ _ _ x j s.r c (enters_of func120 (by kernel_rfl) rfl) ?_).mono ?_
 .intro i k hi a;obtain⟨_,_,_,_,_,v⟩:=(c.below a) i hi;have A:k.cell? ⟨w.heap.size,1,none⟩=some (.slice p.sa p.ns p.cs):=(a.cell (p:=⟨w.heap.size,1,none⟩) (by simp;omega)).trans (by simp[World.cell?_alloc_past,t,c1]);have z:k.cell? ⟨b.heap.size,0,none⟩=some (.func (.func 119) #[] #[]):=(a.cell (p:=⟨b.heap.size,0,none⟩) (by simp)).trans (by simp);exact Lr _ _ p (s.r i) k v f.les f.caps A z
 rintro e k ⟨rfl,a⟩;have q:=m.trans (a.mono (by simp;omega));cases y:aw s.n (λi=>ou p (s.r i))
 .go_wp2_with fail;go_ret;exact⟨by simp[ey,l,u,y],q⟩
 go_wp2_with fail;go_ret;exact⟨by simp[ey,l,y],q⟩
theorem Jh(p:Pl)(s:Sh)(w:World)(u:p.At w)(hs:s.At w):
  Calls prog 137 #[p.val,s.val] w λe w'=>e = .returned (.int .i64 (ey p s))/\Below w.heap.size w w':=by
 obtain⟨sa,m,sc,t⟩:=s;obtain⟨ae,E,rows⟩:=hs;dsimp only at ae E rows;unfold maxLen at E;have leb:=u.leb;have capb:=u.capb;have les:=u.les;have caps:=u.caps;unfold maxLen at capb caps;have F:Below w.heap.size w (w.alloc (.cells #[.slice p.ab p.nb p.cb,.slice p.sa p.ns p.cs] 25)):=(Below.refl w.heap.size w).alloc nlr _;simp only[Pl.val,Sh.val];go_enter func137,ntmps137;go_wp2_with fail;refine(J6 p _ (u.below F)).mono ?_;rintro e l ⟨rfl,y⟩;have c:=F.trans (y.mono (by simp));have U:w.heap.size<l.heap.size:=by have:=y.size;simp at this;omega
 have c0:l.cell? ⟨w.heap.size,0,none⟩=some (.slice p.ab p.nb p.cb):=(y.cell (p:=⟨w.heap.size,0,none⟩) (by simp)).trans (by simp);have c1:l.cell? ⟨w.heap.size,1,none⟩=some (.slice p.sa p.ns p.cs):=(y.cell (p:=⟨w.heap.size,1,none⟩) (by simp)).trans (by simp);have G:=rows.below c;clear y F rows u;by_cases H:iz p=0;rotate_left
 .go_wp2_with fail;go_ret;exact⟨by simp[ey,H],c⟩
 cases S:((m:Int) !=(p.nb:Int));rotate_left
 .go_wp2_with fail;go_ret;exact⟨by simp[ey,H,S],c⟩
 have d:=qa2 H S;go_wp2_with fail;clear H S
 go_loopw [6] (λi P=>∃k:Nat,k<=m/\i = .int .i64 k/\(∀j,j<k->ou p (t j)=false)/\Below l.heap.size l P) (λi _=>m-(intOf i).toNat)
 case atStart=>exact⟨0,Qxz _,rfl,λj q=>absurd q (Qzq _),Below.refl _ _⟩
 obtain⟨k,hk,rfl,f,a⟩:=hrel;have V:=hid f;have d1:wr.cell? ⟨w.heap.size,1,none⟩=some (.slice p.sa p.ns p.cs):=(a.cell (p:=⟨w.heap.size,1,none⟩) U).trans c1;clear f;by_cases D:k<m;rotate_left
 .go_wp2_with fail;go_ret;have v:aw m (λi=>ou p (t i))=false:=cu λj q=>V.out j (by omega);exact⟨by simp[ey,d.out.1,d.out.2,v],c.trans (a.mono c.size)⟩
 obtain⟨b,o,rfl,hb,B,aa⟩:=G k D;obtain⟨J,r,ints⟩:=aa;unfold maxLen at r;obtain⟨R,M⟩:∃R,R=t k:=⟨_,rfl⟩;rw[<-M] at B J r ints;have Q:=hid M;obtain⟨ra,A,rc,h⟩:=R;dsimp only at B J r ints;have z1:=(a.cell (p:=⟨b,o+k,none⟩) hb).trans B;have Z0:=hid B;clear B M;cases T:((A:Int) !=(p.ns:Int));rotate_left
 .go_wp2_with fail
  go_quiet (fail)
  go_wp2_with fail;go_ret;have v:aw m (λi=>ou p (t i))=true:=du D (by rw[<-Q.out];simp[ou,T]);exact⟨by simp[ey,d.out.1,d.out.2,v],below_drewN (c.trans (a.mono c.size)) _⟩
 have H2:=hid T;go_wp2_with fail
 go_quiet (fail)
 go_wp2_with fail;have L:=below_drewN a nq;clear T
 go_loopw [7] (λi P=>∃g:Nat,g<=A/\i = .int .i64 g/\(∀j,j<g->po (h j)=false)/\Below l.heap.size l P) (λi _=>A-(intOf i).toNat)
 case atStart=>exact⟨0,Qxz _,rfl,λj q=>absurd q (Qzq _),L⟩
 clear a L z1 d1;obtain⟨g,hg,rfl,f,a⟩:=hrel;have HM:=hid f;clear f;have z2:=(a.cell (p:=⟨b,o+k,none⟩) hb).trans Z0.out;by_cases K:g<A;rotate_left
 .have x:Hid (ou p (t k)=false):=by
   show ou p (t k)=false;rw[<-Q.out];simp[ou,H2.out,cu (n:=A) (bad:=λi=>po (h i)) λj q=>HM.out j (by omega)]
  go_wp2_with fail;go_roundw
  case measure=>simp[intOf];omega
  refine⟨k+1,by omega,by go_num,?_,a⟩;intro j q;by_cases z:j=k
  .rw[z,x.out]
  exact V.out j (by omega)
 obtain⟨b',o',rfl,Y,W⟩:=ints g K;have y1:=(a.cell (p:=⟨b',o'+g,none⟩) Y).trans W;clear W;cases X:inB (h g) 0 200
 .have x:Hid (po (h g)=true):=by show po (h g)=true;simp[po,X]
  go_wp2_with(go_at_call 44;refine ag (cf _ _ _ _) ?_);go_ret;have v:aw m (λi=>ou p (t i))=true:=du D (by rw[<-Q.out];simp[ou,du (bad:=λi=>po (h i)) K x.out]);exact⟨by simp[ey,d.out.1,d.out.2,v],c.trans (a.mono c.size)⟩
 have x:Hid (po (h g)=false):=by show po (h g)=false;simp[po,X]
 go_wp2_with(go_at_call 44;refine ag (cf _ _ _ _) ?_);go_roundw
 case measure=>simp[intOf];omega
 refine⟨g+1,by omega,by go_num,?_,a⟩;intro j q;by_cases z:j=g
 .rw[z,x.out]
 exact HM.out j (by omega)
theorem dm(n:Nat)(k:Int)(w:World)(a:n<=maxLen):
  Calls prog 47 #[.int .i64 n,.int .i64 k] w λe b=>e = .returned (.bool (inB k 0 ((n:Int)-1)))/\b=w:=by
 unfold maxLen at a;go_enter func47,ntmps47;go_wp2_with(go_at_call 48;refine ag (cn _ _ _ _) ?_);go_ret;exact⟨rfl,rfl⟩
theorem zq(p:Pl)(k:Int)(w:World)(c:p.nb<=p.cb)(b:p.cb<=maxLen):
  Calls prog 81 #[p.val,.int .i64 k] w λe a=>e = .returned (.bool (inB k 0 ((p.nb:Int)-1)))/\Below w.heap.size w a:=by
 unfold maxLen at b;simp only[Pl.val];go_enter func81,ntmps81;go_wp2_with(go_at_call 44;refine ag (cf _ _ _ _) ?_);go_ret;exact⟨rfl,brf.alloc nlr _⟩
theorem ue(p:Pl)(k:Int)(w:World)(c:p.ns<=p.cs)(b:p.cs<=maxLen):
  Calls prog 82 #[p.val,.int .i64 k] w λe a=>e = .returned (.bool (inB k 0 ((p.ns:Int)-1)))/\Below w.heap.size w a:=by
 unfold maxLen at b;simp only[Pl.val];go_enter func82,ntmps82;go_wp2_with(go_at_call 44;refine ag (cf _ _ _ _) ?_);go_ret;exact⟨rfl,brf.alloc nlr _⟩
theorem T4(p:Pl)(s:Sh)(bin:Nat)(w:World)(L:p.At w)(hs:s.At w)(J:tr p s)(c:bin<s.n):
  Calls prog 140 #[p.val,s.val,.int .i64 bin] w λe S=>e = .returned (.int .i64 (ff (s.r bin).z p.zs p.ns))/\Below w.heap.size w S:=by
 obtain⟨pl,W,m,q⟩:=J;have v:=m bin c;have a:Hid (∀j,j<p.ns->(0<=(s.r bin).z j/\(s.r bin).z j<=200)/\1<=p.zs j/\p.zs j<=9):=λj E=>⟨q bin c j E,pl.sizes j E⟩;have F:=pl.ns3;obtain⟨ab,nb,cb,zb,sa,ns,cs,zs⟩:=p;obtain⟨_,_,_,les,caps,sizes⟩:=L;obtain⟨s0,sn,sc,P⟩:=s;obtain⟨H,t,rows⟩:=hs;dsimp only at v a les caps sizes H t rows c F;obtain⟨b,o,rfl,M,y,G⟩:=rows bin c;obtain⟨x,d,ints⟩:=G
 generalize hR:P bin=R at y x d ints v a
 obtain⟨ra,h,rc,l⟩:=R;dsimp only at y x d ints v a;subst v;have V:=hid hR;clear hR m q pl W rows;unfold maxLen at t d caps;simp only[Pl.val,Sh.val];go_enter func140,ntmps140;go_wp2_with fail
 go_loopw [7,8] (λu i T=>∃k:Nat,k<=h/\i = .int .i64 k/\u = .int .i64 (ff l zs k)/\Below (w.heap.size+1) (w.alloc (.cells #[.slice ab nb cb,.slice sa h cs] 25)) T) (λ_ i _=>h-(intOf i).toNat)
 case atStart=>exact⟨0,Qxz _,rfl,rfl,Below.refl _ _⟩
 obtain⟨k,Q,rfl,rfl,A⟩:=hrel;have g:Below w.heap.size w wr:=((Below.refl w.heap.size w).alloc nlr _).trans (A.mono (by omega));have c1:wr.cell? ⟨w.heap.size,1,none⟩=some (.slice sa h cs):=(A.cell (p:=⟨w.heap.size,1,none⟩) (by simp)).trans (by simp);have z1:=(g.cell (p:=⟨b,o+bin,none⟩) M).trans y;by_cases f:k<h
 .obtain⟨b1,o1,rfl,Y,y0⟩:=(ints.below g) k f;obtain⟨b2,o2,rfl,X,x0⟩:=(sizes.below g) k f;have K:=vt a.out k Q;have m2:=Cw (a.out k f).1 (a.out k f).2;have D:Hid (ff l zs (k+1)=ff l zs k+l k*zs k):=rfl;have m3:(0:Int)<=(bin:Int):=by omega
  generalize ff l zs k=U at K D ⊢
  go_wp2_with fail
  go_quiet (fail)
  go_wp2_with fail;go_roundw
  case rel=>exact⟨k+1,by omega,by go_num,by rw[D.out],below_drewN A _⟩
  case measure=>simp[intOf];omega
 go_wp2_with fail;go_ret;have B:k=h:=by omega
 subst B;exact⟨by rw[V.out];rfl,g⟩
theorem Wq(p:Pl)(s:Sh)(good:Nat)(w:World)(hs:s.At w)(P:tr p s)(v:good<p.ns):
  Calls prog 159 #[s.val,.int .i64 good] w λe M=>e = .returned (.int .i64 (cv (λi=>(s.r i).z good) s.n))/\Below w.heap.size w M:=by
 obtain⟨pl,E,g,c⟩:=P;have h:Hid (∀j,j<s.n->0<=(s.r j).z good/\(s.r j).z good<=200):=λj q=>c j q good v;have B:Hid (∀j,j<s.n->good<(s.r j).n):=λj q=>by rw[g j q];exact v
 have D:=pl.nb6;rw[<-E] at D;clear E g c pl v;obtain⟨s0,l,sc,a⟩:=s;obtain⟨G,f,rows⟩:=hs;dsimp only at h B G f rows D;unfold maxLen at f;simp only[Sh.val];go_enter func159,ntmps159;go_wp2_with fail
 go_loopw [5,6] (λu i K=>∃k:Nat,k<=l/\i = .int .i64 k/\u = .int .i64 (cv (λi=>(a i).z good) k)/\Below w.heap.size w K) (λ_ i _=>l-(intOf i).toNat)
 case atStart=>exact⟨0,Qxz _,rfl,rfl,Below.refl _ _⟩
 obtain⟨k,J,rfl,rfl,m⟩:=hrel;by_cases d:k<l;rotate_left
 .go_wp2_with fail;go_ret;have x:k=l:=by omega
  subst x;exact⟨rfl,m⟩
 obtain⟨b,o,rfl,Y,L,F⟩:=(rows.below m) k d;obtain⟨S,t,ints⟩:=F;have A:=B.out k d;obtain⟨b1,V,H,T,W⟩:=ints good A;rw[H] at L;clear H;have Q:=C7 (z:=λi=>(a i).z good) h.out k J;have X:=h.out k d;have y:Hid (cv (λi=>(a i).z good) (k+1)=cv (λi=>(a i).z good) k+(a k).z good):=rfl;have m3:(0:Int)<=(good:Int):=by omega
 generalize cv (λi=>(a i).z good) k=U at Q y ⊢
 unfold maxLen at t;go_wp2_with fail;go_roundw
 case rel=>exact⟨k+1,by omega,by go_num,by rw[y.out],m⟩
 case measure=>simp[intOf];omega
theorem Zb(p:Pl)(s:Sh)(bin:Int)(w:World)(G:p.At w)(hs:s.At w):
  Calls prog 96 #[p.val,s.val,.int .i64 bin] w λe Y=>e = .returned (.tuple #[.int .i64 (Fx p s bin),.int .i64 (ui p s bin)])/\Below w.heap.size w Y:=by
 have l:Below w.heap.size w (w.alloc (.cells #[.slice p.ab p.nb p.cb,.slice p.sa p.ns p.cs] 25)):=(Below.refl w.heap.size w).alloc nlr _;simp only[Pl.val,Sh.val];have V:=hs.le;have g:=hs.cap;have H:=g;unfold maxLen at H;have E:s.n<=maxLen:=Qzx V g;go_enter func96,ntmps96;go_wp2_with fail;refine(xt p s _ (G.below l) (hs.below l)).mono ?_;rintro e A ⟨rfl,a⟩;have c:=l.trans (a.mono (by simp));have ah:w.heap.size<A.heap.size:=by have:=a.size;simp at this;omega
 have c1:A.cell? ⟨w.heap.size,1,none⟩=some (.slice p.sa p.ns p.cs):=(a.cell (p:=⟨w.heap.size,1,none⟩) (by simp)).trans (by simp);by_cases q:ey p s=0;rotate_left
 .go_wp2_with fail
  go_ret2
  exact⟨by simp[Fx,ui,q],c⟩
 cases t:inB bin 0 ((s.n:Int)-1)
 .go_wp2_with(go_at_call 47;refine ag (dm _ _ _ E) ?_)
  go_ret2
  exact⟨by simp[Fx,ui,q,t],c⟩
 have H0:=hid q;have H1:=hid t;obtain⟨m,rfl⟩:=Qzz (aq t).1;have F:m<s.n:=by have:=(aq t).2;omega
 have L:Hid (Fx p s (m:Int)=ff (s.r m).z p.zs p.ns/\ui p s (m:Int)=0):=by
  show _/\_;simp[Fx,ui,q,t]
 obtain⟨pl,hn,y,v⟩:=(ts q).2;have J:=y m F;have d:Hid (∀j,j<p.ns->(0<=(s.r m).z j/\(s.r m).z j<=200)/\1<=p.zs j/\p.zs j<=9):=λj Q=>⟨v m F j Q,pl.sizes j Q⟩;have aj:=pl.ns3;have W:=G.below c;have P:=hs.below c;clear G hs a l y v pl hn;obtain⟨ab,nb,cb,zb,sa,ns,cs,zs⟩:=p;obtain⟨_,_,_,les,caps,sizes⟩:=W;obtain⟨s0,sn,sc,sr⟩:=s;obtain⟨_,_,rows⟩:=P;dsimp only at *;obtain⟨b,o,rfl,hb,T,S⟩:=rows m F;obtain⟨D,f,ints⟩:=S
 generalize hR:sr m=R at T D f ints J d
 obtain⟨ra,B,rc,x⟩:=R;dsimp only at T D f ints J d;subst J;have HR:=hid hR;clear hR rows;unfold maxLen at f caps;have m3:(0:Int)<=(m:Int):=by omega
 go_wp2_with(go_at_call 47;refine ag (dm _ _ _ E) ?_);clear q t
 go_loopw [9,28] (λu i wk=>∃k:Nat,k<=B/\i = .int .i64 k/\u = .int .i64 (ff x zs k)/\Below A.heap.size A wk) (λ_ i _=>B-(intOf i).toNat)
 case atStart=>exact⟨0,Qxz _,rfl,rfl,Below.refl _ _⟩
 obtain⟨k,X,rfl,rfl,a⟩:=hrel;obtain⟨hc,hf⟩:=Vn a;by_cases h:k<B
 .obtain⟨b1,o1,rfl,ak,y0⟩:=(ints.below a) k h;obtain⟨b2,o2,rfl,ai,x0⟩:=(sizes.below a) k h;have m1:=vt d.out k X;have m2:=Cw (d.out k h).1 (d.out k h).2;have M:Hid (ff x zs (k+1)=ff x zs k+x k*zs k):=rfl
  generalize ff x zs k=U at m1 M ⊢
  go_wp2_with fail;go_roundw
  case rel=>exact⟨k+1,by omega,by go_num,by rw[M.out],a⟩
  case measure=>simp[intOf];omega
 go_wp2_with fail
 go_ret2
 have K:k=B:=by omega
 subst K;exact⟨by rw[L.out.1,L.out.2,HR.out];rfl,c.trans (a.mono c.size)⟩
theorem aas(p:Pl)(s:Sh)(good:Int)(w:World)(A:p.At w)(hs:s.At w):
  Calls prog 29 #[p.val,s.val,.int .i64 good] w λe V=>e = .returned (.tuple #[.int .i64 (Ks p s good),.int .i64 (Fz p s good)])/\Below w.heap.size w V:=by
 have f:Below w.heap.size w (w.alloc (.cells #[.slice p.ab p.nb p.cb,.slice p.sa p.ns p.cs] 25)):=(Below.refl w.heap.size w).alloc nlr _;simp only[Pl.val,Sh.val];have ah:=hs.le;have F:=hs.cap;unfold maxLen at F;have les:=A.les;have d:=A.caps;have B:p.ns<=maxLen:=Qzx les d;have caps:=d;unfold maxLen at caps;go_enter func29,ntmps29;go_wp2_with fail;refine(xt p s _ (A.below f) (hs.below f)).mono ?_;rintro e x ⟨rfl,a⟩;have c:=f.trans (a.mono (by simp));have ad:w.heap.size<x.heap.size:=by have:=a.size;simp at this;omega
 have c1:x.cell? ⟨w.heap.size,1,none⟩=some (.slice p.sa p.ns p.cs):=(a.cell (p:=⟨w.heap.size,1,none⟩) (by simp)).trans (by simp);by_cases l:ey p s=0;rotate_left
 .go_wp2_with fail
  go_ret2
  exact⟨by simp[Ks,Fz,l],c⟩
 cases v:inB good 0 ((p.ns:Int)-1)
 .go_wp2_with(go_at_call 47;refine ag (dm _ _ _ B) ?_)
  go_ret2
  exact⟨by simp[Ks,Fz,l,v],c⟩
 obtain⟨m,rfl⟩:=Qzz (aq v).1;have P:m<p.ns:=by have:=(aq v).2;omega
 have J:Hid (Ks p s (m:Int)=cv (λi=>(s.r i).z m) s.n/\Fz p s (m:Int)=0):=by
  show _/\_;simp[Ks,Fz,l,v]
 obtain⟨pl,Q,t,h⟩:=(ts l).2;have hl:Hid (∀j,j<s.n->m<(s.r j).n):=λj E=>by rw[t j E];exact P
 have D:Hid (∀j,j<s.n->0<=(s.r j).z m/\(s.r j).z m<=200):=λj E=>h j E m P;have h6:=pl.nb6;rw[<-Q] at h6;have rows:=(hs.below c).rows;clear A hs a f t h pl Q;have m3:(0:Int)<=(m:Int):=by omega
 go_wp2_with(go_at_call 47;refine ag (dm _ _ _ B) ?_);clear l v c1;obtain⟨s0,y,sc,g⟩:=s;dsimp only at *
 go_loopw [9,26] (λu i X=>∃k:Nat,k<=y/\i = .int .i64 k/\u = .int .i64 (cv (λi=>(g i).z m) k)/\Below x.heap.size x X) (λ_ i _=>y-(intOf i).toNat)
 case atStart=>exact⟨0,Qxz _,rfl,rfl,Below.refl _ _⟩
 obtain⟨k,T,rfl,rfl,a⟩:=hrel;obtain⟨hc,hf⟩:=Vn a;by_cases q:k<y
 .obtain⟨b,o,rfl,hb,Y,M⟩:=(rows.below a) k q;obtain⟨ae,G,ints⟩:=M;have L:=hl.out k q;obtain⟨b1,o1,S,af,y0⟩:=ints m L;rw[S] at Y;clear S;have W:=C7 (z:=λi=>(g i).z m) D.out k T;have m2:=D.out k q;have K:Hid (cv (λi=>(g i).z m) (k+1)=cv (λi=>(g i).z m) k+(g k).z m):=rfl
  generalize cv (λi=>(g i).z m) k=U at W K ⊢
  unfold maxLen at G;go_wp2_with fail;go_roundw
  case rel=>exact⟨k+1,by omega,by go_num,by rw[K.out],a⟩
  case measure=>simp[intOf];omega
 go_wp2_with fail
 go_ret2
 have H:k=y:=by omega
 subst H;exact⟨by rw[J.out.1,J.out.2];rfl,c.trans (a.mono c.size)⟩
def Blk(w:World)(g:Nat)(e:TypeId)(n:Nat)(f:Nat->Value):Prop :=
 ∃cur,w.heap[g]?=some (.cells cur e (0,0))/\n<=cur.size/\∀j,j<n->cur[j]?=some (f j)
theorem Blk.lt(h:Blk w g e n f):g<w.heap.size:=by
 obtain⟨cur,hc,_⟩:=h;exact(Qkq hc).1
theorem Blk.cell(h:Blk w g e n f)(a:j<n):w.cell? ⟨g,j,none⟩=some (f j):=by
 obtain⟨cur,hc,_,b⟩:=h;simp[World.cell?,hc,b j a]
theorem Blk.frozen(h:Blk w g e n f)(j:Nat):w.frozen? ⟨g,j,none⟩=false:=by
 obtain⟨cur,hc,_,a⟩:=h;simp[World.frozen?,hc]
theorem Blk.same(h:Blk w g e n f)(hs:a.heap[g]?=w.heap[g]?):Blk a g e n f:=by
 obtain⟨cur,hc,b⟩:=h;exact⟨cur,hs.trans hc,b⟩
theorem Blk.below(h:Blk w g e n f)(b:Below w.heap.size w a):Blk a g e n f:=h.same (b.block g h.lt)
theorem Blk.grown{row:Option Nat}(h:Blk w g e n f)(c:w.grownBy a row)(b:some g≠row):Blk a g e n f:=h.same (c.block g h.lt b)
theorem Blk.congr(h:Blk w g e n f)(d:∀j,j<n->f j=f' j):Blk w g e n f':=by
 obtain⟨cur,hc,b,c⟩:=h;exact⟨cur,hc,b,λj a=>by rw[c j a,d j a]⟩
theorem Blk.other(h:Blk w g e n f){a:Addr}(b:g≠a.block)(v:Value):Blk (w.setCell a v) g e n f:=h.same (Below.heap_setCell w a v g b)
theorem Blk.set(h:Blk w g e n f)(j:Nat)(v:Value):Blk (w.setCell ⟨g,j,none⟩ v) g e n (λi=>if i=j then v else f i):=by
 obtain⟨cur,hc,b,c⟩:=h;refine⟨cur.setIfInBounds j v,?_,by simpa using b,?_⟩
 .simp[World.setCell,Array.getElem?_modify,hc]
 intro i hi;rw[Array.getElem?_setIfInBounds];by_cases a:i=j
 .subst a;simp;omega
 rw[if_neg (λe=>a e.symm),c i hi];simp[a]
theorem Blk.new(w:World)(cur:Array Value)(e:TypeId):Blk (w.alloc (.cells cur e)) w.heap.size e cur.size (λj=>cur.getD j default):=by
 refine⟨cur,heap_alloc_new w _,Nat.le_refl _,λj a => ?_⟩;simp[Array.getD,a]
theorem Blk.ofOwns{base:Nat}{size:Nat}{a:List Value}(h:w.ownsRow base e size v n a)(m:v ≠ .slice none 0 0):
  ∃g c,v = .slice (some ⟨g,0,none⟩) n c/\n<=c/\c<=maxLen/\base<=g/\Blk w g e (n*size) (λj=>a.getD j default):=by
 obtain⟨p,h|⟨g,cap,cur,rfl,l,k,b,o,f,d⟩⟩:=h
 .exact absurd h.1 m
 refine⟨g,cap,rfl,b,o,l,cur,k,by rw[f];exact Nat.mul_le_mul_right _ b,λj i => ?_⟩;have:a[j]?=cur[j]?:=by
  rw[<-d,List.getElem?_take,if_pos i];simp
 rw[<-this,List.getElem?_eq_getElem (by omega)];simp[List.getD,List.getElem?_eq_getElem (show j<a.length by omega)]
theorem Blk.mk'{cur:Array Value}(a:g=w.heap.size)(b:f=λj=>cur.getD j default):Blk (w.alloc (.cells cur e)) g e cur.size f:=by
 subst a b;exact Blk.new w cur e
theorem Blk.alloc(h:Blk w g e n f)(o:Obj):Blk (w.alloc o) g e n f:=h.below (brf.alloc nlr o)
theorem Blk.ints{z:Nat->Int}(h:Blk w g e n (λj => .int .i64 (z j))):vr w (some ⟨g,0,none⟩) n z:=λi hi =>
 ⟨g,0,rfl,h.lt,by rw[Nat.zero_add];exact h.cell hi⟩
theorem Blk.k(h:Blk w g e n f)(j:Nat)(a:j<n:=by decide):w.cell? ⟨g,j,none⟩=some (f j):=h.cell a
theorem z7(h:Blk w g e 7 f):g<w.heap.size/\w.frozen? ⟨g,0,none⟩=false/\w.cell? ⟨g,0,none⟩=some (f 0)/\w.frozen? ⟨g,1,none⟩=false/\w.cell? ⟨g,1,none⟩=some (f 1)/\w.frozen? ⟨g,2,none⟩=false/\w.cell? ⟨g,2,none⟩=some (f 2)/\w.frozen? ⟨g,3,none⟩=false/\w.cell? ⟨g,3,none⟩=some (f 3)/\w.frozen? ⟨g,4,none⟩=false/\w.cell? ⟨g,4,none⟩=some (f 4)/\w.frozen? ⟨g,5,none⟩=false/\w.cell? ⟨g,5,none⟩=some (f 5)/\w.frozen? ⟨g,6,none⟩=false/\w.cell? ⟨g,6,none⟩=some (f 6):=⟨h.lt,h.frozen 0,h.cell (j:=0) (by decide),h.frozen 1,h.cell (j:=1) (by decide),h.frozen 2,h.cell (j:=2) (by decide),h.frozen 3,h.cell (j:=3) (by decide),h.frozen 4,h.cell (j:=4) (by decide),h.frozen 5,h.cell (j:=5) (by decide),h.frozen 6,h.cell (j:=6) (by decide)⟩
structure Hd where
 o:Int
 l:Int
 b:Int
 n:Int
variable{z D:Nat->Hd}{Z E:Hd->Bool}{h:Hd}
def Hd.val(x:Hd):Value := .agg #[.int .i64 x.o,.int .i64 x.l,.int .i64 x.b,.int .i64 x.n]
def df(x:Hd):List Value:=[.int .i64 x.o,.int .i64 x.l,.int .i64 x.b,.int .i64 x.n]
def gy(x:Hd):Bool:=inB x.o 0 3&&inB x.l 0 2&&inB x.b 0 5&&inB x.n 1 200
def ba(x:Hd):Int:=(x.o*3+x.l)*6+x.b
def C6(a b:Int):Int:=if a<b then -1 else if b<a then 1 else 0
def orI(a b c:Int):Int:=if a=0 then(if b=0 then c else b) else a
def ma(x y:Hd):Int:=orI (C6 x.o y.o) (C6 x.l y.l) (C6 x.b y.b)
theorem cy{x:Hd}(h:gy x=true):(0<=x.o/\x.o<=3)/\(0<=x.l/\x.l<=2)/\(0<=x.b/\x.b<=5)/\1<=x.n/\x.n<=200:=by
 simp only[gy,Xxx] at h;exact⟨aq h.1.1.1,aq h.1.1.2,aq h.1.2,aq h.2⟩
theorem Av{x y:Hd}(hx:gy x=true)(c:gy y=true):(0<=ma x y↔ba y<=ba x)/\(ma x y=0↔ba x=ba y):=by
 have a:=cy hx;have b:=cy c;unfold ma orI C6 ba;constructor
 all_goals(repeat' split)<;>omega
theorem Ro{x y:Hd}:ma x y=0↔x.o=y.o/\x.l=y.l/\x.b=y.b:=by
 unfold ma orI C6
 (repeat' split)<;>omega
theorem Nv{x y:Hd}:ma x y<0↔x.o<y.o\/(x.o=y.o/\(x.l<y.l\/(x.l=y.l/\x.b<y.b))):=by
 unfold ma orI C6
 (repeat' split)<;>omega
theorem Oq{x y z:Hd}(b:ma x y<0)(a:ma y z<0):ma x z<0:=by
 rw[Nv] at *;omega
def da(z:Nat->Hd)(i:Nat):Bool := !gy (z i)||(decide (0<i)&&decide (0<=ma (z (i-1)) (z i)))
def xz(z:Nat->Hd)(i:Nat):Bool := !gy (z i)||(decide (0<i)&&decide (ba (z i)<=ba (z (i-1))))
theorem Qc(z:Nat->Hd):∀n,aw n (xz z)=aw n (da z)
 | 0=>rfl
 | n+1=>by
  rw[Dr,Dr,Qc z n];cases h:aw n (da z);rotate_left
  .simp
  simp only[Bool.false_or];unfold xz da;cases d:gy (z n)
  .simp
  by_cases a:0<n
  .have e:=dj h (n-1) (by omega);have b:gy (z (n-1))=true:=by
    cases c:gy (z (n-1))
    .simp[da,c] at e
    rfl
   have:=(Av b d).1;simp only[a,decide_true,Bool.true_and,Bool.not_true,Bool.false_or];rw[Bool.eq_iff_iff];simp only[decide_eq_true_eq];exact this.symm
  simp[a]
def h9(n:Nat)(z:Nat->Hd):Int:=if aw n (da z) then 1 else 0
theorem bw(h:aw n (da z)=false):∀i,i<n->gy (z i)=true:=by
 intro i hi;have:=dj h i hi;cases a:gy (z i)
 .simp[da,a] at this
 rfl
theorem zz(h:aw n (da z)=false):∀i,i+1<n->ba (z i)<ba (z (i+1)):=by
 intro i hi;have b:=dj h (i+1) hi;have c:=bw h i (by omega);have a:=bw h (i+1) hi;have:=(Av c a).1;simp only[da,a,Bool.not_true,Bool.false_or,Nat.succ_pos,decide_true,Bool.true_and,Nat.add_sub_cancel,decide_eq_false_iff_not] at b;rw[this] at b;omega
theorem mq(h:aw n (da z)=false):∀i j,i<j->j<n->ba (z i)<ba (z j):=by
 intro i j c b
 induction j with
 | zero=>omega
 | succ j ih =>
  have s:=zz h j b;by_cases a:i=j
  .subst a;exact s
  have:=ih (by omega) (by omega);omega
theorem Vz(h:aw n (da z)=false):∀i,i<n->(i:Int)<=ba (z i)/\ba (z i)<=71:=by
 intro i hi;have f:=cy (bw h i hi);constructor
 .induction i with
  | zero=>unfold ba;omega
  | succ i ih =>
   have:=zz h i hi;have:=ih (by omega) (cy (bw h i (by omega)));omega
 unfold ba;omega
theorem wh(h:aw n (da z)=false):n<=72:=by
 by_cases a:n=0
 .omega
 have:=Vz h (n-1) (by omega);omega
def jc(w:World)(a:Option Addr)(n:Nat)(z:Nat->Hd):Prop :=
 ∀i,i<n->∃b o,a=some ⟨b,o,none⟩/\b<w.heap.size/\w.cell? ⟨b,o+i*4,none⟩=some (.int .i64 (z i).o) /\
  w.cell? ⟨b,o+i*4+1,none⟩=some (.int .i64 (z i).l)/\w.cell? ⟨b,o+i*4+2,none⟩=some (.int .i64 (z i).b) /\
  w.cell? ⟨b,o+i*4+3,none⟩=some (.int .i64 (z i).n)
theorem jc.below{e:World}{a:Option Addr}(h:jc w a n z)(d:Below w.heap.size w e):jc e a n z:=by
 intro i hi;obtain⟨b,o,k,c,j,l,g,f⟩:=h i hi;exact⟨b,o,k,Xzx c d.size,(d.cell (p:=⟨b,o+i*4,none⟩) c).trans j,(d.cell (p:=⟨b,o+i*4+1,none⟩) c).trans l,
  (d.cell (p:=⟨b,o+i*4+2,none⟩) c).trans g,(d.cell (p:=⟨b,o+i*4+3,none⟩) c).trans f⟩
structure Hs where
 a:Option Addr
 n:Nat
 c:Nat
 z:Nat->Hd
variable{H O:Hs}
def Hs.val(s:Hs):Value := .slice s.a s.n s.c
structure Hs.At(w:World)(s:Hs):Prop where
 le:s.n<=s.c
 cap:s.c<=maxLen
 hds:jc w s.a s.n s.z
 nilc:s.a=none->s.c=0
theorem Hs.At.below{s:Hs}(h:s.At w)(b:Below w.heap.size w a):s.At a:=⟨h.le,h.cap,h.hds.below b,h.nilc⟩
def Hu(ops:Array Oper):List (Bool × Nat)->Array Bool->Bool
 | [],listed=>Region.ready .any ops listed==[]
 | (h,i) :: r,listed=>(if h then(Region.ready .any ops listed).contains i&&Region.free .any ops listed i else Region.ready .any ops listed==[i])&&Hu ops r (listed.setIfInBounds i true)
theorem Oper.wp_then{o:Oper}{a:Act}{K N:Act->World->Prop}(h:o.wp P a w K (Exit.then N Q)):o.wp P a w K Q:=by
 unfold Oper.wp at *
 generalize (execOp a.eval o).run P w=r at *
 cases r with
 | ok n w' =>
  cases n<;>simp only[Oper.upon] at h ⊢ <;>
   first
    | exact h
    | exact Calls.mono h (λe c b=>by cases e<;>exact b)
    | exact Rows.mono h (λ_ _ b=>b)
 | halt x w'=>cases x<;>simp only[Oper.upon] at h ⊢<;>exact h
def yd(P:Program)(ops:Array Oper)(Q:Exit->Act->World->Prop)(S:World->Prop):List (Bool × Nat)->Act->World->Prop
 | [],a,w=>Q .normal a w
 | (false,i) :: r,a,w=>wpOp P ops Q i (λa' w'=>S w'/\yd P ops Q S r a' w') a w
 | (true,i) :: r,a,w=>∃o v,ops[i]?=some o/\YieldsIf P ops S o v a/\yd P ops Q S r (a.put o.dst v) w
theorem uq{P:Program}{d:Array Oper}{Q:Exit->Act->World->Prop}{S:World->Prop}(hs:Region.noSelect d=true)
  (f:∀c a k w,Q (.panic c) a w->Q (.panic c) k w):∀(e:List (Bool × Nat)) (b:Array Bool) (a:Act) (w:World),
   Hu d e b=true->S w->yd P d Q S e a w->wpAnyH P .any d Q S e.length b a w
 | [],b,a,w,hB,_,h=>wpAnyH_done (by simpa[Hu] using hB) h _
 | (false,i) :: r,b,a,w,hB,hS,h=>by
  simp only[Hu,Bool.false_eq_true,if_false,Xxx,beq_iff_eq] at hB;refine wpAnyH_all hB.1 (by simp) λj l => ?_;rw[List.mem_singleton] at l;subst l;exact wpOp_mono (λk s g=>⟨g.1,uq hs f r _ k s hB.2 g.1 g.2⟩) h
 | (true,i) :: r,b,a,w,hB,hS,h=>by
  simp only[Hu,if_true,Xxx] at hB;obtain⟨o,v,m,p,q⟩:=h;exact wpAnyH_take m hs hB.1.2 hB.1.1 (λc a w n=>f _ _ _ _ n) p hS (uq hs f r _ _ w hB.2 hS q)
theorem o9{b:Array Oper}{a:Act}(S:World->Prop)(d:List (Bool × Nat))
  (e:P.follows .mixedOrders=true) (hs:Region.noSelect b=true) (i:Hu b d (Array.replicate b.size false)=true) (f:d.length=b.size)
  (g:S w.drew) (h:yd P b (NoPanic Q) S d a w.drew):(Code.region n b true).wp P Q a w:=by
 refine wp_region_noPanic (wp_region_held (S:=S) e ?_);have:=uq (Q:=NoPanic Q) hs (λc a j w h=>(h:False).elim) d (Array.replicate b.size false) a w.drew i g h;rw[f] at this;exact this
theorem dc{l:List Oper}{r:List (Bool × Nat)}(k:Nat){a:Act}(e:k<l.length)
  (h:wpList P l.toArray (Exit.then (λf c=>S c/\yd P l.toArray Q S r f c) Q) ((l.drop k).take 1) a w):yd P l.toArray Q S ((false,k) :: r) a w:=by
 have j:l.toArray[k]?=some l[k]:=by simp[e]
 have b:(l.drop k).take 1=[l[k]]:=by
  rw[List.drop_eq_getElem_cons e]
  rfl
 rw[b] at h;show wpOp P l.toArray Q k _ a w;unfold wpOp;simp only[j];unfold wpList at h
 split
 .rename_i d;rw[if_pos d] at h;rcases h with h|⟨b,i⟩
  .exact .inl (Oper.wp_then (Oper.wp_mono (λf c g=>g) h))
  exact .inr ⟨b,i⟩
 rename_i d;rw[if_neg d] at h;exact h
def yf(o:Oper):Bool:=match o.op with
 | .move _=>true
 | .assign _=>true
 | .slice ..=>true
 | .load ..=>true
 | .fieldAddr ..=>true
 | .indexAddr ..=>true
 | .binOp ..=>true
 | .nilCheck _=>true
 | _=>false
theorem Wx{s:Sem Value}{b:World}{n:Next}(h:(do let x <-s;pure (Next.value x):Sem Next).run P w = .ok n b):∃v,n = .value v:=by
 simp only[Sem.run_bind,Sem.run_pure] at h;cases a:s.run P w with
 | ok u w2 =>
  rw[a] at h;simp only[Result.andThen] at h;cases h;exact⟨_,rfl⟩
 | halt y w2 =>
  rw[a] at h;simp only[Result.andThen] at h;cases h
theorem Be{o:Oper}{ρ:Operand->Value}{f:World}{n:Next}(d:yf o=true)(h:(execOp ρ o).run P w = .ok n f):∃v,n = .value v:=by
 unfold yf at d;unfold execOp at h
 split at d
 .rename_i x hx;rw[hx] at h;simp only[] at h;cases h;exact⟨_,rfl⟩
 .rename_i x hx;rw[hx] at h;simp only[] at h;cases h;exact⟨_,rfl⟩
 all_goals first
  | (cases d;done)
  | (rename_i hx;rw[hx] at h;exact Wx h)
  | skip
 rename_i x hx;rw[hx] at h;simp only[] at h
 split at h
 .cases h
 .cases h
 .cases h
 rotate_left
 .cases h;exact⟨_,rfl⟩
 rename_i c first e _
 split at h
 .cases h
 rotate_left
 .cases h;exact⟨_,rfl⟩
 rename_i t u _;simp only[Sem.run_bind] at h;cases g:(nilAhead (P.types.size+Made.depth) t u c).run P w with
 | ok b w2 =>
  change Result.andThen ((nilAhead (P.types.size+Made.depth) t u c).run P w) (λa f=>_)=_ at h;rw[g] at h;simp only[Result.andThen] at h
  split at h
  .cases h
  cases h;exact⟨_,rfl⟩
 | halt y w2 =>
  change Result.andThen ((nilAhead (P.types.size+Made.depth) t u c).run P w) (λa f=>_)=_ at h;rw[g] at h;cases h
theorem am{l:List Oper}{r:List (Bool × Nat)}(k:Nat){o:Oper}{a:Act}(d:l[k]?=some o)(f:yf o=true)
  (h:wpQuiet P l.toArray S (λj=>yd P l.toArray Q S r j w) [o] a):yd P l.toArray Q S ((true,k) :: r) a w:=by
 unfold wpQuiet at h
 split at h
 .rename_i c;obtain⟨v,g,i⟩:=h;refine⟨o,v,by simpa using d,.inl ⟨c,λe m => ?_⟩,i⟩;have:=g e m;unfold Oper.quietAt at this;cases b:(execOp a.eval o).run P e with
  | ok n w2 =>
   rw[b] at this;obtain⟨u,rfl⟩:=Be f b;simp only[Oper.quietUpon] at this;rw[this.1,this.2]
  | halt x w2=>rw[b] at this;exact this.elim
 rename_i c;refine⟨o,undef,by simpa using d,.inr ⟨by simpa using c,rfl⟩,h⟩
open Go.Sort
theorem aaq(n k:Int)(w:World)(a:0<=n/\n<=1000):
  Calls prog 47 #[.int .i64 n,.int .i64 k] w λe b=>e = .returned (.bool (inB k 0 (n-1)))/\b=w:=by
 obtain⟨m,rfl⟩:=Qzz a.1;exact dm m k w (by unfold maxLen;omega)
theorem rj(x:Hd)(w:World):
  Calls prog 136 #[x.val] w λe a=>e = .returned (.bool (gy x))/\Below w.heap.size w a:=by
 unfold gy Hd.val;go_enter func136,ntmps136;go_wp2_with(first|(go_at_call 47;refine ag (aaq _ _ _ (by omega)) ?_)|(go_at_call 48;refine ag (cn _ _ _ _) ?_))
 all_goals go_ret
 all_goals exact⟨by simp[*],brf.alloc nlr _⟩
theorem zy(x:Hd)(w:World):
  Calls prog 163 #[x.val] w λe a=>e = .returned (.bool (gy x))/\Below w.heap.size w a:=by
 unfold gy Hd.val;go_enter func163,ntmps163;go_wp2_with(go_at_call 44;refine ag (cf _ _ _ _) ?_)
 all_goals go_ret
 all_goals exact⟨by simp[*],brf.alloc nlr _⟩
theorem N6(x:Hd)(w:World)(h:gy x=true):
  Calls prog 143 #[x.val] w λe b=>e = .returned (.int .i64 (ba x))/\Below w.heap.size w b:=by
 have a:=cy h;unfold ba Hd.val;go_enter func143,ntmps143
 go_wp2
 go_ret;exact⟨rfl,brf.alloc nlr _⟩
theorem D1(x y:Int)(w:World):
  Calls prog 149 #[.int .i64 x,.int .i64 y] w λe a=>e = .returned (.int .i64 (C6 x y))/\a=w:=by
 unfold C6;by_cases c:x<y
 .go_enter func149,ntmps149
  go_wp2
  go_ret;exact⟨by simp,rfl⟩
 by_cases b:y<x
 .go_enter func149,ntmps149
  go_wp2
  go_ret;exact⟨by simp,rfl⟩
 go_enter func149,ntmps149
 go_wp2
 go_ret;exact⟨by simp,rfl⟩
theorem abv(g:Nat)(a b c:Int)(w:World)(h:Blk w g 3 3 (λj=>(#[.int .i64 a,.int .i64 b,.int .i64 c]:Array Value).getD j default)):
  Calls prog 148 #[.slice (some ⟨g,0,none⟩) 3 3] w λe u=>e = .returned (.int .i64 (orI a b c))/\u=w:=by
 have x:w.cell? ⟨g,0,none⟩=some (.int .i64 a):=h.k 0;have c1:w.cell? ⟨g,1,none⟩=some (.int .i64 b):=h.k 1;have c2:w.cell? ⟨g,2,none⟩=some (.int .i64 c):=h.k 2;clear h;unfold orI;go_enter func148,ntmps148
 go_wp2
 go_loop [8] (λi=>∃k:Nat,k<=3/\i = .int .i64 k/\(1<=k->a=0)/\(2<=k->b=0)/\(3<=k->c=0)) (λi=>3-(intOf i).toNat)
 case atStart=>exact⟨0,by omega,rfl,λh=>by omega,λh=>by omega,λh=>by omega⟩
 obtain⟨k,v,rfl,s,r,hc⟩:=hrel;have l:Hid _:=And.intro s (And.intro r hc);clear s r hc;have o:k=0\/k=1\/k=2\/k=3:=by omega
 rcases o with rfl|rfl|rfl|rfl
 .cases f:(a !=0)
  .have d:a=0:=by simpa using f
   have m:=hid d;clear d
   go_wp2
   go_round
   case rel=>exact⟨1,by omega,by go_num,λ_=>m.out,λh=>by omega,λh=>by omega⟩
   case measure=>simp[intOf]
  have d:¬a=0:=by simpa using f
  go_wp2
  go_ret;exact⟨by simp,rfl⟩
 .have p:=l.out.1 (by omega);have n:=hid p;clear p;cases f:(b !=0)
  .have d:b=0:=by simpa using f
   have m:=hid d;clear d
   go_wp2
   go_round
   case rel=>exact⟨2,by omega,by go_num,λ_=>n.out,λ_=>m.out,λh=>by omega⟩
   case measure=>simp[intOf]
  have d:¬b=0:=by simpa using f
  go_wp2
  go_ret;exact⟨by simp,rfl⟩
 .have n:Hid (a=0):=l.out.1 (by omega);have q:Hid (b=0):=l.out.2.1 (by omega);cases f:(c !=0)
  .have d:c=0:=by simpa using f
   have m:=hid d;clear d
   go_wp2
   go_round
   case rel=>exact⟨3,by omega,by go_num,λ_=>n.out,λ_=>q.out,λ_=>m.out⟩
   case measure=>simp[intOf]
  have d:¬c=0:=by simpa using f
  go_wp2
  go_ret;exact⟨by simp,rfl⟩
 have n:Hid (a=0):=l.out.1 (by omega);have q:Hid (b=0):=l.out.2.1 (by omega);have t:Hid (c=0):=l.out.2.2 (by omega)
 go_wp2
 go_ret;exact⟨by simp[t.out],rfl⟩
theorem tj(x y:Hd)(w:World):
  Calls prog 110 #[x.val,y.val] w λe f=>e = .returned (.int .i64 (ma x y))/\Below w.heap.size w f:=by
 unfold ma Hd.val;have F:∃W,(w.alloc (.cells #[.int .i64 x.o,.int .i64 x.l,.int .i64 x.b,.int .i64 x.n] 103)).alloc (.cells #[.int .i64 y.o,.int .i64 y.l,.int .i64 y.b,.int .i64 y.n] 103)=W/\Below w.heap.size w W /\
   (W.cell? ⟨w.heap.size,0,none⟩=some (.int .i64 x.o)/\W.cell? ⟨w.heap.size,1,none⟩=some (.int .i64 x.l)/\W.cell? ⟨w.heap.size,2,none⟩=some (.int .i64 x.b)) /\
   (W.cell? ⟨w.heap.size+1,0,none⟩=some (.int .i64 y.o)/\W.cell? ⟨w.heap.size+1,1,none⟩=some (.int .i64 y.l)/\W.cell? ⟨w.heap.size+1,2,none⟩=some (.int .i64 y.b)):=by
  refine⟨_,rfl,(brf.alloc nlr _).alloc (by simp) _,?_,?_⟩
  .exact⟨by simp,by simp,by simp⟩
  exact⟨by simp,by simp,by simp⟩
 obtain⟨W,g,c,⟨u,m,i⟩,r,q,s⟩:=F;have h:Hid _:=g;clear g;go_enter func110,ntmps110;go_wp2_with fail;rw[h.out];clear h;have e0:=Qqq u;have H:=Qqq m;have D:=Qqq i;have G:=Qqq r;have z:=Qqq q;have E:=Qqq s;refine o9 (λf=>∃p:Regrown,f=grow (redrawn W p.d) p.os)
  ([0,1,2,3,5,6,7,8,10,11,12,13].map (λk=>(true,k))++[(false,4),(false,9),(false,14),(false,15),(false,16),(false,17)]) (by kernel_rfl) (by kernel_rfl) (by kernel_rfl) (by kernel_rfl) (Qqx (brf.drew)) ?_
 refine am 0 rfl rfl ?_
 go_big_quiet_step(fail)
 refine Qqz ?_;refine am 1 rfl rfl ?_
 go_big_quiet_step(fail)
 refine Qqz ?_;refine am 2 rfl rfl ?_
 go_big_quiet_step(fail)
 refine Qqz ?_;refine am 3 rfl rfl ?_
 go_big_quiet_step(fail)
 refine Qqz ?_;refine am 5 rfl rfl ?_
 go_big_quiet_step(fail)
 refine Qqz ?_;refine am 6 rfl rfl ?_
 go_big_quiet_step(fail)
 refine Qqz ?_;refine am 7 rfl rfl ?_
 go_big_quiet_step(fail)
 refine Qqz ?_;refine am 8 rfl rfl ?_
 go_big_quiet_step(fail)
 refine Qqz ?_;refine am 10 rfl rfl ?_
 go_big_quiet_step(fail)
 refine Qqz ?_;refine am 11 rfl rfl ?_
 go_big_quiet_step(fail)
 refine Qqz ?_;refine am 12 rfl rfl ?_
 go_big_quiet_step(fail)
 refine Qqz ?_;refine am 13 rfl rfl ?_
 go_big_quiet_step(fail)
 refine Qqz ?_;refine dc 4 (by decide) ?_;simp only[Qyq,Xqq,Qyx,Qyz];go_wp2_with(go_at_call 149;refine ag (D1 _ _ _) ?_);refine⟨Qqx (brf.drew),?_⟩;refine dc 9 (by decide) ?_;simp only[Qyq,Xqq,Qyx,Qyz];go_wp2_with(go_at_call 149;refine ag (D1 _ _ _) ?_);refine⟨Qqx (brf.drew),?_⟩;refine dc 14 (by decide) ?_;simp only[Qyq,Xqq,Qyx,Qyz];go_wp2_with(go_at_call 149;refine ag (D1 _ _ _) ?_);refine⟨Qqx (brf.drew),?_⟩
 generalize hA:C6 x.o y.o=A
 generalize hBB:C6 x.l y.l=B
 generalize hC:C6 x.b y.b=C
 have t:=hid hA;have j:=hid hBB;have v:=hid hC;clear hA hBB hC;refine dc 15 (by decide) ?_;simp only[Qyq,Xqq,Qyx,Qyz];go_wp2_with fail;have a:Below W.heap.size W (W.alloc (.cells #[.int .i64 A,.int .i64 B,.int .i64 C] 3)).drew:=(brf.alloc nlr _).drew;refine⟨Qqx a,?_⟩;refine dc 16 (by decide) ?_;simp only[Qyq,Xqq,Qyx,Qyz];go_wp2_with fail;refine ag (abv W.heap.size A B C _ (Blk.below (Blk.mk' rfl rfl) (brf.drew))) ?_;go_wp2_with fail;refine⟨Qqx a,?_⟩;refine dc 17 (by decide) ?_;simp only[Qyq,Xqq,Qyx,Qyz];go_wp2_with fail;refine⟨Qqx a,?_⟩;refine NoPanic.normal ?_;go_wp2_with fail;go_ret;exact⟨by rw[t.out,j.out,v.out];rfl,c.trans (a.mono c.size)⟩
theorem dr{x:Hd}(e:w.cell? ⟨b,q,none⟩=some (.int .i64 x.o))(f:w.cell? ⟨b,q+1,none⟩=some (.int .i64 x.l))(c:w.cell? ⟨b,q+2,none⟩=some (.int .i64 x.b))(a:w.cell? ⟨b,q+3,none⟩=some (.int .i64 x.n)):
  (∀d os,(grow (redrawn w d) os).cell? ⟨b,q,none⟩=some (.int .i64 x.o))/\(∀d os,(grow (redrawn w d) os).cell? ⟨b,q+1,none⟩=some (.int .i64 x.l)) /\
  (∀d os,(grow (redrawn w d) os).cell? ⟨b,q+2,none⟩=some (.int .i64 x.b))/\(∀d os,(grow (redrawn w d) os).cell? ⟨b,q+3,none⟩=some (.int .i64 x.n)):=
 ⟨λd os=>Qqq e d os,λd os=>Qqq f d os,λd os=>Qqq c d os,λd os=>Qqq a d os⟩
theorem Ly(B:Nat)(a:Option Addr)(n c:Nat)(z:Nat->Hd)(i:Nat)(w:World)(hi:i<n)(Y:n<=c)(hc:c<=maxLen)(l:jc w a n z)(t:w.cell? ⟨B,0,none⟩=some (.slice a n c)):
  Calls prog 135 #[.int .i64 i,.pointer (some ⟨B,0,none⟩)] w λe F=>e = .returned (.bool (da z i))/\Below w.heap.size w F:=by
 obtain⟨b,o,rfl,W,r,q,s,p⟩:=l i hi;obtain⟨H,J,G,E⟩:=dr r q s p;have S:=Qqq t;have U:(0:Int)<=(i:Int):=by omega
 have V:(i:Int)<(n:Int):=by omega
 unfold maxLen at hc;by_cases m:i=0
 .subst m;simp only[Nat.zero_mul,Nat.add_zero] at H J G E;clear r q s p l t;cases h:gy (z 0)
  .go_enter func135,ntmps135;go_wp2_with fail;refine Qxq (by kernel_rfl) (by kernel_rfl) ?_
   repeat(go_big_quiet_step((go_at_call 136;exact Xxz (rj (z 0) _))))
   refine Qqz ?_;intro _ f;obtain⟨⟨j,g⟩,d⟩:=f;subst d;go_wp2_with fail;go_ret;exact⟨by simp[da,h],Qxx _ _ _⟩
  go_enter func135,ntmps135;go_wp2_with fail;refine Qxq (by kernel_rfl) (by kernel_rfl) ?_
  repeat(go_big_quiet_step((go_at_call 136;exact Xxz (rj (z 0) _))))
  refine Qqz ?_;intro _ f;obtain⟨⟨j,g⟩,d⟩:=f;subst d;go_wp2_with fail;go_ret;exact⟨by simp[da,h],Qxx _ _ _⟩
 obtain⟨k,rfl⟩:∃k,i=k+1:=⟨i-1,by omega⟩;obtain⟨P,L,u,K,x,v,y,D⟩:=l k (by omega);simp only[Qkx,Qkz,and_true] at u;obtain⟨rfl,rfl⟩:=u;obtain⟨T,Q,X,M⟩:=dr x v y D;have m3:(0:Int)<=(k:Int):=by omega
 have m4:(k:Int)<(n:Int):=by omega
 have m5:(0:Int)<(k:Int)+1:=by omega
 clear r q s p x v y D l t m;cases h:gy (z (k+1))
 .go_enter func135,ntmps135;go_wp2_with fail;refine Qxq (by kernel_rfl) (by kernel_rfl) ?_
  repeat(go_big_quiet_step(first|(go_at_call 136;exact Xxz (rj (z (k+1)) _))|(go_at_call 110;exact Xxz (tj (z k) (z (k+1)) _))))
  refine Qqz ?_;intro _ f;obtain⟨⟨j,g⟩,d⟩:=f;subst d;go_wp2_with fail;go_ret;exact⟨by simp[da,h],Qxx _ _ _⟩
 cases A:decide (0<=ma (z k) (z (k+1)))
 .go_enter func135,ntmps135;go_wp2_with fail;refine Qxq (by kernel_rfl) (by kernel_rfl) ?_
  repeat(go_big_quiet_step(first|(go_at_call 136;exact Xxz (rj (z (k+1)) _))|(go_at_call 110;exact Xxz (tj (z k) (z (k+1)) _))))
  refine Qqz ?_;intro _ f;obtain⟨⟨j,g⟩,d⟩:=f;subst d;go_wp2_with fail;go_ret;exact⟨by simp only[da,Nat.add_sub_cancel,h,A];simp,Qxx _ _ _⟩
 go_enter func135,ntmps135;go_wp2_with fail;refine Qxq (by kernel_rfl) (by kernel_rfl) ?_
 repeat(go_big_quiet_step(first|(go_at_call 136;exact Xxz (rj (z (k+1)) _))|(go_at_call 110;exact Xxz (tj (z k) (z (k+1)) _))))
 refine Qqz ?_;intro _ f;obtain⟨⟨j,g⟩,d⟩:=f;subst d;go_wp2_with fail;go_ret;exact⟨by simp only[da,Nat.add_sub_cancel,h,A];simp,Qxx _ _ _⟩
theorem tw(s:Hs)(w:World)(hs:s.At w):
  Calls prog 79 #[s.val] w λe A=>e = .returned (.int .i64 (h9 s.n s.z))/\Below w.heap.size w A:=by
 obtain⟨a,n,c,z⟩:=s;obtain⟨t,hc,o⟩:=hs;dsimp only at t hc o ⊢;have u:=hc;unfold maxLen at hc;simp only[Hs.val];go_enter func79,ntmps79;go_wp2_with fail
 go_loopw [8] (λi x=>∃k:Nat,k<=n/\i = .int .i64 k/\(∀j,j<k->da z j=false)/\Below (w.heap.size+1) (w.alloc (.cells #[.slice a n c] 28)) x) (λi _=>n-(intOf i).toNat)
 case atStart=>exact⟨0,Qxz _,rfl,λj m=>absurd m (Qzq _),Below.refl _ _⟩
 obtain⟨k,B,rfl,f,d⟩:=hrel;have q:=hid f;clear f;have b:Below w.heap.size w wr:=((Below.refl w.heap.size w).alloc nlr _).trans (d.mono (by omega));have hs:w.heap.size+1<=wr.heap.size:=by have:=d.size;simpa using this
 have y:wr.cell? ⟨w.heap.size,0,none⟩=some (.slice a n c):=(d.cell (p:=⟨w.heap.size,0,none⟩) (by simp)).trans (by simp);by_cases g:k<n;rotate_left
 .go_wp2_with fail;go_ret;have l:aw n (da z)=false:=cu λj m=>q.out j (by omega);exact⟨by rw[show h9 n z=0 from by simp[h9,l]];rfl,b⟩
 go_wp2_with fail;refine(Ly w.heap.size a n c z k wr g t u (o.below b) y).mono ?_;rintro e D ⟨rfl,h⟩;cases r:da z k
 .go_wp2_with fail;go_roundw
  case measure=>simp[intOf];omega
  refine⟨k+1,by omega,by go_num,?_,d.trans (h.mono hs)⟩;intro j m;by_cases v:j=k
  .rw[v,r]
  exact q.out j (by omega)
 have l:Hid (aw n (da z)=true):=du g r;go_wp2_with fail;go_ret;exact⟨by rw[show h9 n z=1 from by simp[h9,l.out]];rfl,b.trans (h.mono (by omega))⟩
theorem Ni(s:Hs)(w:World)(hs:s.At w):
  Calls prog 158 #[s.val] w λe w'=>e = .returned (.int .i64 (h9 s.n s.z))/\Below w.heap.size w w':=by
 obtain⟨a,n,c,z⟩:=s;obtain⟨hn,hc,U⟩:=hs;dsimp only at hn hc U ⊢;have t:Hid (h9 n z=if aw n (xz z) then 1 else 0):=by show h9 n z=_;rw[Qc];rfl
 unfold maxLen at hc;simp only[Hs.val]
 generalize h9 n z=E at t ⊢
 go_enter func158,ntmps158;go_wp2_with fail
 go_loopw [3] (λi Y=>∃k:Nat,k<=n/\i = .int .i64 k/\(∀j,j<k->xz z j=false)/\Below w.heap.size w Y) (λi _=>n-(intOf i).toNat)
 case atStart=>exact⟨0,Qxz _,rfl,λj v=>absurd v (Qzq _),Below.refl _ _⟩
 obtain⟨k,hk,rfl,A,g⟩:=hrel;have D:=hid A;clear A;by_cases r:k<n;rotate_left
 .go_wp2_with fail;go_ret;have m:aw n (xz z)=false:=cu λj v=>D.out j (by omega);exact⟨by rw[t.out,m];rfl,g⟩
 have y:=U.below g;obtain⟨b,o,rfl,hb,K,J,L,H⟩:=y k r;obtain⟨r0,X,r2,r3⟩:=dr K J L H;have m1:(0:Int)<=(k:Int):=by omega
 have m2:(k:Int)<(n:Int):=by omega
 cases x:gy (z k)
 .have m:Hid (aw n (xz z)=true):=du r (by simp[xz,x]);go_wp2_with fail;refine Qxq (by kernel_rfl) (by kernel_rfl) ?_
  repeat(go_big_quiet_step((go_at_call 163;exact Xxz (zy (z k) _))))
  refine Qqz ?_;intro _ f;obtain⟨⟨B,p⟩,d⟩:=f;subst d;go_wp2_with fail;go_ret;exact⟨by rw[t.out,m.out];rfl,g.trans ((Qxx _ _ _).mono g.size)⟩
 by_cases l:k=0
 .have Q:Hid (xz z k=false):=by show xz z k=false;subst l;simp[xz,x]
  subst l;simp only[Nat.zero_mul,Nat.add_zero] at r0 X r2 r3;go_wp2_with fail;refine Qxq (by kernel_rfl) (by kernel_rfl) ?_
  repeat(go_big_quiet_step((go_at_call 163;exact Xxz (zy (z 0) _))))
  refine Qqz ?_;intro _ f;obtain⟨⟨B,p⟩,d⟩:=f;subst d;go_wp2_with fail;go_roundw
  case measure=>simp[intOf];omega
  refine⟨1,by omega,by go_num,?_,g.trans ((Qxx _ _ _).mono g.size)⟩;intro j v;have:j=0:=by omega
  rw[this,Q.out]
 obtain⟨q,rfl⟩:∃q,k=q+1:=⟨k-1,by omega⟩;have V:gy (z q)=true:=by
  have:=D.out q (by omega);cases hq:gy (z q)
  .simp[xz,hq] at this
  rfl
 obtain⟨b',o',G,ag,S,M,T,W⟩:=y q (by omega);simp only[Qkx,Qkz,and_true] at G;obtain⟨rfl,rfl⟩:=G;obtain⟨p0,p1,p2,p3⟩:=dr S M T W;have m3:(0:Int)<=(q:Int):=by omega
 have m4:(q:Int)<(n:Int):=by omega
 have m5:(0:Int)<(q:Int)+1:=by omega
 have u:Hid _:=And.intro x V;have h:Hid (xz z (q+1)=decide (ba (z (q+1))<=ba (z q))):=by show xz z (q+1)=_;simp[xz,x]
 clear K J L H S M T W l V;cases F:decide (ba (z (q+1))<=ba (z q));rotate_left
 .rw[F] at h;have m:Hid (aw n (xz z)=true):=du r h.out;go_wp2_with fail;refine Qxq (by kernel_rfl) (by kernel_rfl) ?_
  repeat(go_big_quiet_step(first|(go_at_call 163;exact Xxz (zy (z (q+1)) _))|(go_at_call 143;exact Xxz (N6 _ _ (by first|exact u.out.2|exact u.out.1)))))
  refine Qqz ?_;intro _ f;obtain⟨⟨B,p⟩,d⟩:=f;subst d;go_wp2_with fail;go_ret;exact⟨by rw[t.out,m.out];rfl,g.trans ((Qxx _ _ _).mono g.size)⟩
 rw[F] at h;go_wp2_with fail;refine Qxq (by kernel_rfl) (by kernel_rfl) ?_
 repeat(go_big_quiet_step(first|(go_at_call 163;exact Xxz (zy (z (q+1)) _))|(go_at_call 143;exact Xxz (N6 _ _ (by first|exact u.out.2|exact u.out.1)))))
 refine Qqz ?_;intro _ f;obtain⟨⟨B,p⟩,d⟩:=f;subst d;go_wp2_with fail;go_roundw
 case measure=>simp[intOf];omega
 refine⟨q+1+1,by omega,by go_num,?_,g.trans ((Qxx _ _ _).mono g.size)⟩;intro j v;by_cases P:j=q+1
 .rw[P,h.out]
 exact D.out j (by omega)
theorem vw{s:Sh}(c:iz p=0)(r:tr p s):ey p s=0:=by
 unfold ey;have b:aw s.n (λi=>ou p (s.r i))=false:=cu λi hi=>by
  have a:aw (s.r i).n (λj=>po ((s.r i).z j))=false:=cu λj d=>by
   have:=r.num i hi j (by rw[<-r.len i hi];exact d);simp[po,bq this]
  rw[ou,a,Bool.or_false];simp[r.len i hi]
 rw[b,Bool.or_false];simp[c,r.n]
theorem Bn{z z':Nat->Int}{m:Nat}{n:Int}:∀{k:Nat},m<k->(∀i,i<k->z' i=if i=m then z i+n else z i)->cv z' k=cv z k+n
 | k+1,hm,h=>by
  simp only[cv];by_cases a:m=k
  .subst a;rw[h m (by omega),if_pos rfl,rb (z:=z') (z':=z) λj b=>by rw[h j (by omega),if_neg (by omega)]];omega
  rw[Bn (k:=k) (by omega) λi hi=>h i (by omega),h k (by omega),if_neg (by omega)];omega
def bj(x:Hd)(o l b:Int):Bool:=(x.o==o)&&(x.l==l)&&(x.b==b)
def keptV(n:Nat)(z:Nat->Hd)(o l b:Int):Int:=match (List.range n).find? (λi=>bj (z i) o l b) with
 | some i=>(z i).n
 | none=>0
theorem kf{o l b:Int}(h:∀j,j<n->bj (z j) o l b=false):keptV n z o l b=0:=by
 unfold keptV;have:(List.range n).find? (λi=>bj (z i) o l b)=none:=by
  rw[List.find?_eq_none];intro x hx;simp[h x (List.mem_range.1 hx)]
 rw[this]
theorem mm{k:Nat}{o l b:Int}(d:k<n)(h:∀j,j<k->bj (z j) o l b=false)(c:bj (z k) o l b=true):keptV n z o l b=(z k).n:=by
 unfold keptV;have e:List.range n=List.range k++(k :: (List.range (n-k-1)).map (λi=>k+1+i)):=by
  have:=@List.range_add k (n-k);rw[show k+(n-k)=n by omega] at this;rw[this,show n-k=(n-k-1)+1 by omega,List.range_succ_eq_map];simp[Function.comp_def];intro i hi;omega
 have:(List.range n).find? (λi=>bj (z i) o l b)=some k:=by
  rw[e,List.find?_append];have a:(List.range k).find? (λi=>bj (z i) o l b)=none:=by
   rw[List.find?_eq_none];intro x hx;simp[h x (List.mem_range.1 hx)]
  rw[a,List.find?_cons];simp[c]
 rw[this]
theorem qz(n:Nat)(z:Nat->Hd)(o l b:Int):(∀j,j<n->bj (z j) o l b=false)\/∃k,k<n/\(∀j,j<k->bj (z j) o l b=false)/\bj (z k) o l b=true:=by
 induction n with
 | zero=>exact .inl λj c=>absurd c (Qzq _)
 | succ n ih =>
  rcases ih with h|⟨k,g,f,e⟩
  .cases d:bj (z n) o l b
   .refine .inl λj c => ?_;by_cases a:j=n
    .rw[a,d]
    exact h j (by omega)
   exact .inr ⟨n,by omega,h,d⟩
  exact .inr ⟨k,by omega,f,e⟩
theorem fi{x:Hd}{o l b:Int}(h:bj x o l b=true):x.o=o/\x.l=l/\x.b=b:=by
 simpa[bj,and_assoc] using h
theorem uv(x:Hd):bj x x.o x.l x.b=true:=by simp[bj]
theorem Fm{x y:Hd}{o l b:Int}(hx:bj x o l b=true)(d:bj y o l b=true):ba x=ba y:=by
 have a:=fi hx;have c:=fi d;simp[ba,a,c]
def keptS(z:Nat->Hd)(o l:Int):Nat->Int
 | 0=>0
 | n+1=>keptS z o l n+if (z n).o=o/\(z n).l=l then(z n).n else 0
theorem F5(i:aw (n+1) (da z)=false)(o l b:Int):keptV (n+1) z o l b=keptV n z o l b+if bj (z n) o l b then(z n).n else 0:=by
 rcases qz n z o l b with h|⟨k,d,g,c⟩
 .cases a:bj (z n) o l b
  .rw[kf h,kf λj m=>by
    by_cases e:j=n
    .rw[e,a]
    exact h j (by omega)]
   simp
  rw[kf h,mm (Nat.lt_succ_self n) h a];simp
 have f:bj (z n) o l b=false:=by
  cases a:bj (z n) o l b
  .rfl
  have:=Fm c a;have:=mq i k n d (Nat.lt_succ_self n);omega
 rw[mm d g c,mm (by omega) g c,f];simp
theorem Gp(a:aw (n+1) (da z)=false):aw n (da z)=false:=cu λj b=>dj a j (by omega)
theorem xh(z:Nat->Hd)(o l:Int):∀n,aw n (da z)=false->cv (λb=>keptV n z o l b) 6=keptS z o l n
 | 0,_=>by simp[cv,keptS,keptV]
 | n+1,hr=>by
  have f:=xh z o l n (Gp hr);have h:=cy (bw hr n (Nat.lt_succ_self n));by_cases a:(z n).o=o/\(z n).l=l
  .simp only[keptS,a,and_self,if_true];rw[<-f];refine Bn (m:=(z n).b.toNat) (by omega) λb g => ?_;rw[F5 hr];by_cases c:b=(z n).b.toNat
   .have:bj (z n) o l b=true:=by
     have e:(b:Int)=(z n).b:=by omega
     simp[bj,a,e]
    rw[this,if_pos rfl,if_pos c]
   have:bj (z n) o l b=false:=by
    cases d:bj (z n) o l b
    .rfl
    have:=fi d;omega
   simp[this,c]
  simp only[keptS,a,if_false,Int.add_zero];rw[<-f];refine rb λb g => ?_;rw[F5 hr];have:bj (z n) o l b=false:=by
   cases d:bj (z n) o l b
   .rfl
   have:=fi d;exact absurd ⟨this.1,this.2.1⟩ a
  simp[this]
theorem ro{z:Nat->Hd}(o l:Int):∀n,(∀j,j<n->1<=(z j).n/\(z j).n<=200)->0<=keptS z o l n/\keptS z o l n<=200*n
 | 0,_=>by simp[keptS]
 | n+1,h=>by
  have a:=ro (z:=z) o l n λj b=>h j (by omega);have:=h n (by omega);simp only[keptS]
  split<;>omega
theorem Cz(h:∀j,j<n->1<=(z j).n/\(z j).n<=200)(o l b:Int):0<=keptV n z o l b/\keptV n z o l b<=200:=by
 rcases qz n z o l b with d|⟨k,a,e,c⟩
 .rw[kf d];omega
 rw[mm a e c];have:=h k a;omega
theorem L7(s:Hs)(o l b:Int)(w:World)(hs:s.At w):
  Calls prog 87 #[s.val,.int .i64 o,.int .i64 l,.int .i64 b] w λe A=>e = .returned (.int .i64 (keptV s.n s.z o l b))/\A=w:=by
 obtain⟨a,n,c,z⟩:=s;obtain⟨B,hc,u⟩:=hs;dsimp only at B hc u ⊢;unfold maxLen at hc;simp only[Hs.val]
 generalize hV:keptV n z o l b=V
 have t:=hid hV;clear hV;go_enter func87,ntmps87;go_wp2_with fail
 go_loop [9] (λi=>∃k:Nat,k<=n/\i = .int .i64 k/\(∀j,j<k->bj (z j) o l b=false)) (λi=>n-(intOf i).toNat)
 case atStart=>exact⟨0,Qxz _,rfl,λj h=>absurd h (Qzq _)⟩
 obtain⟨k,D,rfl,p⟩:=hrel;have g:=hid p;clear p;by_cases q:k<n;rotate_left
 .have m:Hid (0=V):=(kf λj h=>g.out j (by omega)).symm.trans t.out;go_wp2_with fail;go_ret;exact⟨by rw[<-m.out];rfl,rfl⟩
 obtain⟨E,K,rfl,L,J,F,G,H⟩:=u k q;cases d:bj (z k) o l b;rotate_left
 .have m:Hid ((z k).n=V):=(mm q g.out d).symm.trans t.out;unfold bj at d;simp only[Xxx] at d;obtain⟨⟨v,x⟩,y⟩:=d;go_wp2_with fail;go_ret;exact⟨by rw[<-m.out];rfl,rfl⟩
 have r:=hid d;unfold bj at d;cases v:((z k).o==o)
 .clear d;go_wp2_with fail
  go_round
  case rel=>exact⟨k+1,by omega,by go_num,λj h=>by
   by_cases f:j=k
   .rw[f,r.out]
   exact g.out j (by omega)⟩
  case measure=>simp[intOf];omega
 cases x:((z k).l==l)
 .clear d;go_wp2_with fail
  go_round
  case rel=>exact⟨k+1,by omega,by go_num,λj h=>by
   by_cases f:j=k
   .rw[f,r.out]
   exact g.out j (by omega)⟩
  case measure=>simp[intOf];omega
 have y:((z k).b==b)=false:=by simpa[v,x] using d
 clear d;go_wp2_with fail
 go_round
 case rel=>exact⟨k+1,by omega,by go_num,λj h=>by
  by_cases f:j=k
  .rw[f,r.out]
  exact g.out j (by omega)⟩
 case measure=>simp[intOf];omega
theorem L4(s:Hs)(o l:Int)(w:World)(hs:s.At w)(d:aw s.n (da s.z)=false):
  Calls prog 160 #[s.val,.int .i64 o,.int .i64 l] w λe B=>e = .returned (.int .i64 (keptS s.z o l s.n))/\B=w:=by
 have a:Hid (∀b:Int,0<=keptV s.n s.z o l b/\keptV s.n s.z o l b<=200):=λb=>Cz (λj v=>(cy (bw d j v)).2.2.2) o l b;have m:=xh s.z o l s.n d;have p:=hid m;have A:Hid _:=hs;clear m d hs;have q:Hid (∀k:Nat,k<=6->0<=cv (λb=>keptV s.n s.z o l b) k/\cv (λb=>keptV s.n s.z o l b) k<=200*k):=λk c=>C7 (n:=6) (λj _=>a.out j) k c
 generalize keptS s.z o l s.n=E at p ⊢
 simp only[Hs.val];go_enter func160,ntmps160;go_wp2_with fail
 go_loopw [7,8] (λu i t=>∃k:Nat,k<=6/\i = .int .i64 k/\u = .int .i64 (cv (λb=>keptV s.n s.z o l b) k)/\t=w) (λ_ i _=>6-(intOf i).toNat)
 case atStart=>exact⟨0,by omega,rfl,rfl,rfl⟩
 obtain⟨k,c,rfl,rfl,r⟩:=hrel;have f:Hid (wr=w):=r;clear r;have x:=q.out k c;have y:=a.out k;have g:Hid (cv (λb=>keptV s.n s.z o l b) (k+1)=cv (λb=>keptV s.n s.z o l b) k+keptV s.n s.z o l k):=rfl;by_cases D:k<6
 .generalize cv (λb=>keptV s.n s.z o l b) k=U at x g ⊢
  go_wp2_with fail;refine ag (L7 s o l k wr (by rw[f.out];exact A.out)) ?_
  generalize keptV s.n s.z o l k=V at y g ⊢
  go_wp2_with fail;go_roundw
  case rel=>exact⟨k+1,by omega,by go_num,by rw[g.out],f.out⟩
  case measure=>simp[intOf];omega
 have h:k=6:=by omega
 subst h;rw[p.out];go_wp2_with fail;go_ret;exact⟨rfl,f.out⟩
theorem P1(s:Hs)(o l:Int)(w:World)(hs:s.At w):
  Calls prog 30 #[s.val,.int .i64 o,.int .i64 l] w λe M=>e = .returned (.tuple #[.int .i64 (if h9 s.n s.z=0 then keptS s.z o l s.n else 0),.int .i64 (h9 s.n s.z)])/\Below w.heap.size w M:=by
 have E:Hid _:=hs;obtain⟨a,n,c,z⟩:=s;obtain⟨S,hc,G⟩:=hs;dsimp only at S hc G ⊢;unfold maxLen at hc;simp only[Hs.val];by_cases m:h9 n z=0;rotate_left
 .rw[if_neg m];go_enter func30,ntmps30;go_wp2_with fail;refine(tw ⟨a,n,c,z⟩ w E.out).mono ?_;rintro e K ⟨rfl,p⟩;dsimp only;go_wp2_with fail
  go_ret2
  exact⟨rfl,p⟩
 have v:aw n (da z)=false:=by
  cases h:aw n (da z)
  .rfl
  simp[h9,h] at m
 have P:=wh v;have D:Hid (∀j,j<n->1<=(z j).n/\(z j).n<=200):=λj F=>(cy (bw v j F)).2.2.2;have H:Hid (∀k,k<=n->0<=keptS z o l k/\keptS z o l k<=200*k):=λk A=>ro o l k λj F=>D.out j (by omega);rw[if_pos m];have L:=hid m;clear v;go_enter func30,ntmps30;go_wp2_with fail;refine(tw ⟨a,n,c,z⟩ w E.out).mono ?_;rintro e K ⟨rfl,p⟩;dsimp only;go_wp2_with fail;clear m
 go_loopw [9,19] (λu i J=>∃k:Nat,k<=n/\i = .int .i64 k/\u = .int .i64 (keptS z o l k)/\Below w.heap.size w J) (λ_ i _=>n-(intOf i).toNat)
 case atStart=>exact⟨0,Qxz _,rfl,rfl,p⟩
 obtain⟨k,A,rfl,rfl,f⟩:=hrel;have Q:=H.out k A;by_cases t:k<n;rotate_left
 .have B:k=n:=by omega
  subst B;go_wp2_with fail
  go_ret2
  exact⟨by rw[L.out];rfl,f⟩
 obtain⟨b,q,rfl,hb,W,V,X,T⟩:=(G.below f) k t;have Y:=D.out k t;have r:Hid (keptS z o l (k+1)=keptS z o l k+if (z k).o=o/\(z k).l=l then(z k).n else 0):=rfl
 generalize keptS z o l k=U at Q r ⊢
 cases x:((z k).o==o)
 .have d:¬((z k).o=o/\(z k).l=l):=by simp at x;omega
  have g:Hid _:=d;clear d;go_wp2_with fail;go_roundw
  case rel=>exact⟨k+1,by omega,by go_num,by rw[r.out,if_neg g.out,Int.add_zero],f.alloc (by have:=f.size;omega) _⟩
  case measure=>simp[intOf];omega
 cases y:((z k).l==l)
 .have d:¬((z k).o=o/\(z k).l=l):=by simp at y;omega
  have g:Hid _:=d;clear d;go_wp2_with fail;go_roundw
  case rel=>exact⟨k+1,by omega,by go_num,by rw[r.out,if_neg g.out,Int.add_zero],f.alloc (by have:=f.size;omega) _⟩
  case measure=>simp[intOf];omega
 have d:((z k).o=o/\(z k).l=l):=by simp at x y;exact⟨x,y⟩
 have g:Hid _:=d;clear d;go_wp2_with fail;go_roundw
 case rel=>exact⟨k+1,by omega,by go_num,by rw[r.out,if_pos g.out],f.alloc (by have:=f.size;omega) _⟩
 case measure=>simp[intOf];omega
structure Q0(n:Nat)(z:Nat->Hd)(t:Hd)(i:Nat):Prop where
 le:i<=n
 lo:∀q,q<i->ma (z q) t<0
 hi:∀q,i<=q->q<n->0<=ma (z q) t
theorem Ow(h:aw n (da z)=false)(p q:Nat)(b:p<q)(a:q<n):ma (z p) (z q)<0:=by
 have c:=bw h p (by omega);have d:=bw h q a;have:=(Av c d).1;have:=mq h p q b a;omega
theorem L9(s:Hs)(t:Hd)(w:World)(hs:s.At w)(Q:aw s.n (da s.z)=false):
  Calls prog 109 #[s.val,t.val,.func (.func 110) #[] #[]] w λe w'=>∃i:Nat,e = .returned (.tuple #[.int .i64 i,.bool (decide (i<s.n)&&decide (ma (s.z i) t=0))])/\Q0 s.n s.z t i/\Below w.heap.size w w':=by
 have U:=wh Q;have W:Hid (∀p q,p<q->q<s.n->ma (s.z p) (s.z q)<0):=λp q x g=>Ow Q p q x g;clear Q;obtain⟨a,n,c,z⟩:=s;obtain⟨hn,hc,V⟩:=hs;dsimp only at hn hc V U W ⊢;unfold maxLen at hc;have af:Below w.heap.size w (w.alloc (.cells #[.int .i64 t.o,.int .i64 t.l,.int .i64 t.b,.int .i64 t.n] 103)):=brf.alloc nlr _;have hT:Hid (∀r,Below (w.heap.size+1) (w.alloc (.cells #[.int .i64 t.o,.int .i64 t.l,.int .i64 t.b,.int .i64 t.n] 103)) r->r.cell? ⟨w.heap.size,0,none⟩=some (.int .i64 t.o)/\r.cell? ⟨w.heap.size,0+1,none⟩=some (.int .i64 t.l)/\r.cell? ⟨w.heap.size,0+2,none⟩=some (.int .i64 t.b)/\r.cell? ⟨w.heap.size,0+3,none⟩=some (.int .i64 t.n)):=λr h =>
  ⟨(h.cell (p:=⟨w.heap.size,0,none⟩) (by simp)).trans (by simp),(h.cell (p:=⟨w.heap.size,1,none⟩) (by simp)).trans (by simp),(h.cell (p:=⟨w.heap.size,2,none⟩) (by simp)).trans (by simp),(h.cell (p:=⟨w.heap.size,3,none⟩) (by simp)).trans (by simp)⟩
 simp only[Hs.val,Hd.val];go_enter func109,ntmps109;go_wp2_with fail
 go_loopw [9,10] (λu v wk=>∃i j:Nat,i<=j/\j<=n/\u = .int .i64 i/\v = .int .i64 j/\(∀q,q<i->ma (z q) t<0)/\(∀q,j<=q->q<n->0<=ma (z q) t)/\Below (w.heap.size+1) (w.alloc (.cells #[.int .i64 t.o,.int .i64 t.l,.int .i64 t.b,.int .i64 t.n] 103)) wk) (λu v _=>(intOf v).toNat-(intOf u).toNat)
 case atStart=>exact⟨0,n,Qxz _,Nat.le_refl _,rfl,rfl,λq hq=>absurd hq (Qzq _),λq x g=>by omega,Below.refl _ _⟩
 obtain⟨i,j,a1,hj,rfl,rfl,P,L,F⟩:=hrel;have K:Hid _:=And.intro P L;clear P L;have k:Below w.heap.size w wr:=af.trans (F.mono (by omega));have M:w.heap.size+1<=wr.heap.size:=by have:=F.size;simpa using this
 obtain⟨t0,Y,t2,X⟩:=hT.out wr F;obtain⟨p0,p1,p2,p3⟩:=dr t0 Y t2 X;simp only[Nat.zero_add] at p1 p2 p3;clear t0 Y t2 X;by_cases a2:i<j;rotate_left
 .have T:i=j:=by omega
  subst T;have HP:Hid (Q0 n z t i):=⟨hj,K.out.1,K.out.2⟩;by_cases G:i<n;rotate_left
  .have hd:decide ((i:Int)<(n:Int))=false:=by simp;omega
   go_wp2_with fail;refine Qxq (by kernel_rfl) (by kernel_rfl) ?_
   repeat(go_big_quiet_step((go_at_call 110;exact Xxz (tj (z i) t _))))
   refine Qqz ?_;intro _ f;obtain⟨⟨S,A⟩,d⟩:=f;subst d;go_wp2_with fail
   go_ret2
   refine⟨i,?_,HP.out,k.trans ((Qxx _ _ _).mono k.size)⟩;simp[G]
  obtain⟨b,o,rfl,hb,J,B,D,H⟩:=(V.below k) _ G;obtain⟨r0,r1,r2,r3⟩:=dr J B D H;clear J B D H;have m3:(0:Int)<=(i:Int):=by omega
  have m4:(i:Int)<(n:Int):=by omega
  have hd:decide ((i:Int)<(n:Int))=true:=by simp;omega
  go_wp2_with fail;refine Qxq (by kernel_rfl) (by kernel_rfl) ?_
  repeat(go_big_quiet_step((go_at_call 110;exact Xxz (tj (z i) t _))))
  refine Qqz ?_;intro _ f;obtain⟨⟨S,A⟩,d⟩:=f;subst d;go_wp2_with fail
  go_ret2
  refine⟨i,?_,HP.out,k.trans ((Qxx _ _ _).mono k.size)⟩;simp[G]
  rfl
 obtain⟨m,hm⟩:∃m,m=(i+j)/2:=⟨_,rfl⟩;have ah:i<=m/\m<j:=by omega
 have aa:Hid (((i:Int)+(j:Int))/2=(m:Int)):=by show((i:Int)+(j:Int))/2=(m:Int);omega
 clear hm;have hh:m<n:=by omega
 obtain⟨b,o,rfl,hb,J,B,D,H⟩:=(V.below k) _ hh;obtain⟨r0,r1,r2,r3⟩:=dr J B D H;clear J B D H;have m3:(0:Int)<=(m:Int):=by omega
 have m4:(m:Int)<(n:Int):=by omega
 go_wp2_with fail;rw[aa.out];cases x:decide (ma (z m) t<0);rotate_left
 .have g:ma (z m) t<0:=by simpa using x
  have E:Hid _:=g;clear g;refine Qxq (by kernel_rfl) (by kernel_rfl) ?_
  repeat(go_big_quiet_step((go_at_call 110;exact Xxz (tj (z m) t _))))
  refine Qqz ?_;intro _ f;obtain⟨⟨S,A⟩,d⟩:=f;subst d;go_wp2_with fail;go_roundw
  case measure=>simp[intOf];omega
  refine⟨m+1,j,by omega,hj,by go_num,by go_num,λq hq => ?_,K.out.2,F.trans ((Qxx _ _ _).mono M)⟩;by_cases y:q=m
  .rw[y];exact E.out
  exact Oq (W.out q m (by omega) (by omega)) E.out
 have g:¬ma (z m) t<0:=by simpa using x
 have E:Hid _:=g;clear g;refine Qxq (by kernel_rfl) (by kernel_rfl) ?_
 repeat(go_big_quiet_step((go_at_call 110;exact Xxz (tj (z m) t _))))
 refine Qqz ?_;intro _ f;obtain⟨⟨S,A⟩,d⟩:=f;subst d;go_wp2_with fail;go_roundw
 case measure=>simp[intOf];omega
 refine⟨i,m,ah.1,by omega,by go_num,by go_num,K.out.1,λq x g => ?_,F.trans ((Qxx _ _ _).mono M)⟩;by_cases y:q=m
 .rw[y];exact Int.not_lt.1 E.out
 rcases Int.lt_or_le (ma (z q) t) 0 with h|h
 .exact absurd (Oq (W.out m q (by omega) g) h) E.out
 exact h
end Go.Proofs.YtbcacebifpagpafGreat
namespace Go.Proofs.YtbcacebifpagpafGreat
variable{b n g A l o i m q j R M N:Nat}{w a c d:World}{r W J K:Int}{e t:TypeId}{p:Pl}{z D:Nat->Hd}{Q:Exit->Act->World->Prop}{f f':Nat->Value}{v c1 c3 c2:Value}{H O:Hs}{U:List Value}{P:Program}{V X:Int->Int->Int}{Y:Array Oper}{Z E:Hd->Bool}{h:Hd}{S:World->Prop}{a1:Act}{z' zs:Nat->Int}{L:Array Bool}
open _root_.Go.Proofs.Tryz
open Go.RowKit Go.Shelf Go.Lib
theorem Kb:(prog.info? 103).map (λi=>(i.zero,i.size,i.bytes))=some (some (.agg #[.int .i64 0,.int .i64 0,.int .i64 0,.int .i64 0]),4,32):=by kernel_rfl
theorem Yv(n:Nat)(w:World)(q:n<=1000):
  Calls prog 150 #[.slice none 0 0,.int .i64 n] w λe j=>∃v,e = .returned v/\j.ownsRow w.heap.size 103 4 v 0 []/\Below w.heap.size w j:=by
 obtain⟨f,hi,g,p,b⟩:=info_parts Kb;by_cases m:n=0
 .subst m;go_enter func150,ntmps150
  go_wp2
  go_ret;exact⟨_,rfl,World.ownsRow_nil _ _ _ _,Below.refl _ _⟩
 have hold:(Builtin.firstCells f.size 0 (.slice none 0 0)).run prog w.drew = .ok (#[]:Array Value) w.drew:=run_firstCells_none w.drew f.size 0 0 0;have c:∀d,(Builtin.append_ #[28,3] d #[.slice none 0 0,.int .i64 (n:Int)]).run prog w =
   .ok (.slice (some ⟨w.heap.size,0,none⟩) n (grownCap w n 0 103)) (w.drew.alloc (.cells (#[]++Builtin.zeroCells (Value.agg #[.int .i64 0,.int .i64 0,.int .i64 0,.int .i64 0]).cells n++Builtin.zeroCells (Value.agg #[.int .i64 0,.int .i64 0,.int .i64 0,.int .i64 0]).cells (grownCap w n 0 103-n)) 103)):=λd=>by
  have h:=Lib.run_append_grow_zeros w 28 3 d 103 f (.agg #[.int .i64 0,.int .i64 0,.int .i64 0,.int .i64 0]) .i64 .i64 underlying28 underlying3 hi g none 0 0 [] hold n (by omega) (by omega) (by omega) (by omega)
   (by rw[b];omega)
   (by rw[Nat.zero_add];exact growslice_fits (by omega) (by rw[b];omega))
  rw[Nat.zero_add] at h;exact h
 have k:n<=grownCap w n 0 103:=grownCap_ge w _ _ _;have a:=grownCap_le_maxLen w n 0 103 (by unfold maxLen;omega);obtain⟨G,i⟩:∃G,G=grownCap w n 0 103:=⟨_,rfl⟩;rw[<-i] at c k a;have l:=hid a;unfold maxLen at a;have o:(0:Int)<(n:Int):=by omega
 clear hold i;go_enter func150,ntmps150;go_wp2_with(at_builtin;refine Lib.wpList_append_run _ rfl _ _ _ _ rfl _ _ rfl rfl _ _ (c _) ?_);go_ret;refine⟨_,rfl,?_,(brf.alloc nlr _).drew⟩;exact(World.ownsRow_made (base:=w.heap.size) (e:=103) (size:=4) w (Builtin.zeroCells #[.int .i64 0,.int .i64 0,.int .i64 0,.int .i64 0] n++Builtin.zeroCells #[.int .i64 0,.int .i64 0,.int .i64 0,.int .i64 0] (G-n)) G nlr l.out (by
  simp[Builtin.zeroCells];omega)).drew
def ax(n:Nat)(z:Nat->Hd):List Value:=(List.range n).flatMap λi=>df (z i)
theorem ed:∀(n:Nat) (z:Nat->Hd),(ax n z).length=n*4
 | 0,_=>rfl
 | n+1,z=>by
  have:=ed n z;unfold ax at *;rw[List.range_succ,List.flatMap_append,List.length_append,this];simp[df];omega
theorem ud(n:Nat)(z:Nat->Hd):ax (n+1) z=ax n z++df (z n):=by
 unfold ax;rw[List.range_succ,List.flatMap_append];simp
theorem vq:∀(n:Nat) (z:Nat->Hd) (i c:Nat),i<n->c<4->(ax n z)[i*4+c]?=(df (z i))[c]?
 | n+1,z,i,c,hi,hc=>by
  rw[ud];by_cases a:i=n
  .subst a;rw[List.getElem?_append_right (by rw[ed];omega),ed]
   congr 1
   omega
  rw[List.getElem?_append_left (by rw[ed];omega)];exact vq n z i c (by omega) hc
theorem mw{z':Nat->Hd}(h:∀i,i<n->z i=z' i):ax n z=ax n z':=by
 unfold ax;rw[List.flatMap_def,List.flatMap_def];rw[List.map_congr_left λi hi=>by rw[h i (List.mem_range.1 hi)]]
theorem me(n:Nat)(z:Nat->Hd):∀u∈ax n z,u.oneCell'=true:=by
 intro u a;unfold ax at a;rw[List.mem_flatMap] at a;obtain⟨i,_,hi⟩:=a;simp[df] at hi;rcases hi with rfl|rfl|rfl|rfl<;>rfl
theorem jc.news(h:jc w (some ⟨b,o,none⟩) n z):∀j u,(ax n z)[j]?=some u->w.cell? ((⟨b,o,none⟩:Addr).add j)=some u:=by
 intro j u a;have l:j<n*4:=by
  have:=(List.getElem?_eq_some_iff.1 a).1
  rwa[ed] at this
 have e:j=(j/4)*4+j%4:=by omega
 have c:j/4<n:=by omega
 obtain⟨p,m,d,_,k,g,i,f⟩:=h (j/4) c;simp only[Qkx,Qkz,and_true] at d;obtain⟨rfl,rfl⟩:=d;rw[e,vq n z _ _ c (by omega)] at a;rw[Go.WideShapes.add_plain];have hc:j%4=0\/j%4=1\/j%4=2\/j%4=3:=by omega
 rcases hc with hc|hc|hc|hc
 .rw[hc] at a;simp[df] at a;rw[<-a,<-k];congr 2;omega
 .rw[hc] at a;simp[df] at a;rw[<-a,<-g];congr 2;omega
 .rw[hc] at a;simp[df] at a;rw[<-a,<-i];congr 2;omega
 rw[hc] at a;simp[df] at a;rw[<-a,<-f];congr 2;omega
theorem Hs.ofOwns{base:Nat}(h:w.ownsRow base e 4 v n (ax n z)):∃s:Hs,v=s.val/\s.At w/\s.n=n/\s.z=z:=by
 by_cases b:v = .slice none 0 0
 .have m:n=0:=by
   rcases h.2 with⟨_,p⟩|⟨g,cap,cur,a,_⟩
   .exact p
   rw[b] at a;cases a
  subst m;exact⟨⟨none,0,0,z⟩,b,⟨Nat.le_refl _,Qxz _,λi hi=>absurd hi (Qzq _),λ_=>rfl⟩,rfl,rfl⟩
 obtain⟨g,c,rfl,l,o,r,d⟩:=Blk.ofOwns h b;refine⟨⟨some ⟨g,0,none⟩,n,c,z⟩,rfl,⟨l,o,λi hi => ?_,λh=>by cases h⟩,rfl,rfl⟩;have j:i<n:=hi;have k:∀q,q<4->w.cell? ⟨g,0+i*4+q,none⟩=some ((ax n z).getD (i*4+q) default):=λq f=>by
  rw[Nat.zero_add];exact d.cell (by omega)
 have e:∀q,q<4->(ax n z).getD (i*4+q) default=(df (z i)).getD q default:=λq f=>by
  simp only[List.getD,vq n z i q j f]
 refine⟨g,0,rfl,d.lt,?_,?_,?_,?_⟩
 .have:=k 0 (by omega);rw[e 0 (by omega)] at this;simpa[df] using this
 .have:=k 1 (by omega);rw[e 1 (by omega)] at this;simpa[df] using this
 .have:=k 2 (by omega);rw[e 2 (by omega)] at this;simpa[df] using this
 have:=k 3 (by omega);rw[e 3 (by omega)] at this;simpa[df] using this
end Go.Proofs.YtbcacebifpagpafGreat
namespace Go.Proofs.YtbcacebifpagpafGreat
variable{b n g A l o i m q j R M N:Nat}{w a c d:World}{r W J K:Int}{e t:TypeId}{p:Pl}{z D:Nat->Hd}{Q:Exit->Act->World->Prop}{f f':Nat->Value}{v c1 c3 c2:Value}{H O:Hs}{U:List Value}{P:Program}{V X:Int->Int->Int}{Y:Array Oper}{Z E:Hd->Bool}{h:Hd}{S:World->Prop}{a1:Act}{z' zs:Nat->Int}{L:Array Bool}
open _root_.Go.Proofs.Tryz
open Go.RowKit Go.Shelf
def tv(S:Nat->Hs):Nat->Nat
 | 0=>0
 | k+1=>tv S k+(S k).n
def Bw(S:Nat->Hs):Nat->List Value
 | 0=>[]
 | k+1=>Bw S k++ax (S k).n (S k).z
theorem Nd{S:Nat->Hs}{m:Nat}(h:∀i,i<m->(S i).n<=100):∀k,k<=m->tv S k<=100*k
 | 0,_=>by simp[tv]
 | k+1,hk=>by
  have:=Nd h k (by omega);have:=h k (by omega);simp only[tv];omega
theorem Ff(m g K:Nat)(S:Nat->Hs)(w:World)(hm:m<=3)(aj:m<=K)(W:K<=maxLen)(hg:Blk w g 28 m (λi => .slice (S i).a (S i).n (S i).c))(H:∀i,i<m->(S i).At w)(hn:∀i,i<m->(S i).n<=100):
  Calls prog 111 #[.slice (some ⟨g,0,none⟩) m K] w λe w'=>∃v,e = .returned v/\w'.ownsRow w.heap.size 103 4 v (tv S m) (Bw S m)/\Below w.heap.size w w':=by
 obtain⟨Y,hi,ab,V,T⟩:=info_parts Kb;have P:=hid H;have D:=hid hn;clear H hn;unfold maxLen at W;go_enter func111,ntmps111;go_wp2_with fail
 go_loop [3,11] (λu i=>∃k:Nat,k<=m/\i = .int .i64 k/\u = .int .i64 (tv S k:Nat)) (λ_ i=>m-(intOf i).toNat)
 case atStart=>exact⟨0,Qxz _,rfl,rfl⟩
 obtain⟨k,hk,rfl,rfl⟩:=hrel;have b1:=Nd D.out k hk;by_cases r:k<m
 .have b2:=D.out k r;have L:=hg.cell r;have le:=(P.out k r).le;have cap:=(P.out k r).cap;unfold maxLen at cap;have y:Hid (tv S (k+1)=tv S k+(S k).n):=rfl
  generalize tv S k=U at b1 y ⊢
  go_wp2_with fail
  go_round
  case rel=>exact⟨k+1,by omega,by go_num,by rw[y.out];go_num⟩
  case measure=>simp[intOf];omega
 have X:k=m:=by omega
 subst X;go_wp2_with fail;refine(Yv (tv S k) w (by omega)).mono ?_;rintro e w1 ⟨v0,rfl,d,ag⟩;go_wp2_with fail
 go_loopw [6,27] (λv i Q=>∃j:Nat,j<=k/\i = .int .i64 j/\Q.ownsRow w.heap.size 103 4 v (tv S j) (Bw S j)/\Below w.heap.size w Q) (λ_ i _=>k-(intOf i).toNat)
 case atStart=>exact⟨0,Qxz _,rfl,d,ag⟩
 obtain⟨j,hj,rfl,d,p⟩:=hrel;by_cases t:j<k;rotate_left
 .have J:j=k:=by omega
  subst J;go_wp2_with fail;go_ret;exact⟨_,rfl,d,p⟩
 have L:=(hg.below p).cell t;have hs:=(P.out j t).below p;have b2:=D.out j t;have b3:=Nd D.out j (by omega);cases F:(S j).a with
 | none =>
  have G:(S j).n=0:=by
   rcases Nat.eq_zero_or_pos (S j).n with h|h
   .exact h
   obtain⟨_,_,s,_⟩:=hs.hds 0 h;rw[F] at s;cases s
  rw[F,G,hs.nilc F] at L;have y:Hid (tv S (j+1)=tv S j/\Bw S (j+1)=Bw S j):=by
   show _/\_;simp[tv,Bw,G,ax]
  go_wp2_with(at_builtin;refine wpList_append_own_none rfl (.tmp 31) (.tmp 32) 28 rfl w.heap.size 103 Y 4 underlying28 hi _ _ _ rfl d rfl ?_);go_roundw
  case rel=>exact⟨j+1,by omega,by go_num,by rw[y.out.1,y.out.2];exact d,p⟩
  case measure=>simp[intOf];omega
 | some ad =>
  have f:=hs.hds;rw[F] at L f;go_wp2_with(at_builtin;refine wpList_append_own _ rfl (.tmp 31) (.tmp 32) 28 rfl w.heap.size 103 Y (.agg #[.int .i64 0,.int .i64 0,.int .i64 0,.int .i64 0]) 4 32 underlying28 hi ab V T rfl (by decide) _ _ _ rfl d ad (S j).n (S j).c (ax (S j).n (S j).z) rfl ?c1 ?c2 ?c3 ?c4 ?c5 ?c6 ?_)
  case c1=>exact ed _ _
  case c2 =>
   intro q u E;have M:0<(S j).n:=by
    have:=(List.getElem?_eq_some_iff.1 E).1;rw[ed] at this;omega
   obtain⟨b,o,s,_⟩:=f 0 M;simp only[Qkx] at s;subst s;exact f.news q u E
  case c3=>exact me _ _
  case c4=>unfold maxLen;omega
  case c5=>omega
  case c6=>exact p.size
  intro v' w2 B l A;have x:=d.lt;have ac:Below w.heap.size w w2:=p.grown l p.size (λq E=>(x q E).1);clear l A x f;go_wp2_with fail;go_roundw
  case rel=>exact⟨j+1,by omega,by go_num,B,ac⟩
  case measure=>simp[intOf];omega
def cz(A:Nat)(e:TypeId)(w:World)(s:Hs):Prop:=s.n<=s.c/\s.c<=maxLen/\(s.a=none->s.c=0)/\(0<s.n->∃g,s.a=some ⟨g,0,none⟩/\A<=g/\Blk w g e (s.n*4) (λj=>(ax s.n s.z).getD j default))
theorem cz.at{s:Hs}(h:cz A e w s):s.At w:=by
 obtain⟨o,q,l,f⟩:=h;refine⟨o,q,λi hi => ?_,l⟩;obtain⟨g,r,t,b⟩:=f (by omega);have c:∀k,k<4->w.cell? ⟨g,0+i*4+k,none⟩=(df (s.z i))[k]?:=λk d=>by
  have m:=b.cell (j:=i*4+k) (by omega);have p:=vq s.n s.z i k hi d;have a:i*4+k<(ax s.n s.z).length:=by rw[ed];omega
  rw[Nat.zero_add,m,<-p,List.getElem?_eq_getElem a];simp[List.getD,List.getElem?_eq_getElem a]
 exact⟨g,0,r,b.lt,c 0 (by decide),c 1 (by decide),c 2 (by decide),c 3 (by decide)⟩
theorem cz.below{s:Hs}(h:cz A e w s)(l:Below w.heap.size w a):cz A e a s:=by
 obtain⟨m,i,f,b⟩:=h;refine⟨m,i,f,λd => ?_⟩;obtain⟨g,j,k,c⟩:=b d;exact⟨g,j,k,c.below l⟩
theorem Blk.ne2{d:Nat}{b:TypeId}{k:Nat}(h:Blk w g e n f)(j:Blk w d b k f')(i:e≠b):g≠d:=by
 rintro rfl;obtain⟨c,hc,_⟩:=h;obtain⟨l,a,_⟩:=j;rw[hc] at a;cases a;exact i rfl
theorem cz.other{s:Hs}(h:cz A e w s)(i:Blk w q t n f)(b:e≠t)(j:Nat)(u:Value):cz A e (w.setCell ⟨q,j,none⟩ u) s:=by
 obtain⟨m,p,k,d⟩:=h;refine⟨m,p,k,λo => ?_⟩;obtain⟨g,r,l,c⟩:=d o;exact⟨g,r,l,c.other (a:=⟨q,j,none⟩) (Blk.ne2 c i b) u⟩
theorem cz.mono{a:Nat}{s:Hs}(h:cz A e w s)(l:a<=A):cz a e w s:=by
 obtain⟨k,i,f,b⟩:=h;refine⟨k,i,f,λd => ?_⟩;obtain⟨g,j,m,c⟩:=b d;exact⟨g,j,by omega,c⟩
def fq(A:Nat)(w:World)(e:TypeId)(size:Nat)(a:Option Addr)(c:Nat):Prop:=c=0\/∃g cur,a=some ⟨g,0,none⟩/\A<=g/\w.heap[g]?=some (.cells cur e (0,0))/\cur.size=c*size
theorem fq.ofOwns{size:Nat}{a:Option Addr}{c:Nat}{k:List Value}(h:w.ownsRow A e size (.slice a n c) l k)(f:b<=A):fq b w e size a c:=by
 obtain⟨_,⟨h,_⟩|⟨g,cap,cur,h,j,i,o,p,d,m⟩⟩:=h
 .cases h;exact Or.inl rfl
 cases h;exact Or.inr ⟨g,cur,rfl,Qzx f j,i,d⟩
theorem fq.same{size:Nat}{a:Option Addr}{c:Nat}(h:fq A w e size a c)(hs:∀(g:Nat) (cur:Array Value),w.heap[g]?=some (.cells cur e (0,0))->d.heap[g]?=w.heap[g]?):fq A d e size a c:=by
 rcases h with h|⟨g,cur,j,i,b,f⟩
 .exact Or.inl h
 exact Or.inr ⟨g,cur,j,i,(hs g cur b).trans b,f⟩
theorem fq.below{b:World}{size:Nat}{a:Option Addr}{c:Nat}(h:fq A w e size a c)(d:Below w.heap.size w b):fq A b e size a c :=
 h.same λg _ f=>d.block g (Qkq f).1
theorem fq.mono{size:Nat}{a:Option Addr}{c:Nat}(h:fq A w e size a c)(j:b<=A):fq b w e size a c:=by
 rcases h with h|⟨g,cur,f,i,d⟩
 .exact Or.inl h
 exact Or.inr ⟨g,cur,f,by omega,d⟩
theorem fq.set{size:Nat}{a:Option Addr}{c:Nat}(h:fq A w e size a c)(q j:Nat)(u:Value):fq A (w.setCell ⟨q,j,none⟩ u) e size a c:=by
 rcases h with h|⟨g,cur,k,i,f,b⟩
 .exact Or.inl h
 by_cases d:g=q
 .subst d;exact Or.inr ⟨g,cur.setIfInBounds j u,k,i,by simp[World.setCell,Array.getElem?_modify,f],by simpa using b⟩
 exact Or.inr ⟨g,cur,k,i,(Below.heap_setCell w ⟨q,j,none⟩ u g d).trans f,b⟩
theorem cz.nil(A:Nat)(e:TypeId)(w:World)(z:Nat->Hd):cz A e w ⟨none,0,0,z⟩:=⟨Nat.le_refl _,Qxz _,λ_=>rfl,λh=>absurd h (Nat.lt_irrefl _)⟩
theorem cz.ofRow{base:Nat}(h:w.ownsRow base e 4 v n (ax n z))(i:A<=base):∃s:Hs,v=s.val/\cz A e w s/\s.n=n/\s.z=z:=by
 by_cases b:v = .slice none 0 0
 .have k:n=0:=by
   rcases h.2 with⟨_,m⟩|⟨g,cap,cur,a,_⟩
   .exact m
   rw[b] at a;cases a
  subst k;exact⟨⟨none,0,0,z⟩,b,cz.nil A e w z,rfl,rfl⟩
 obtain⟨g,c,rfl,j,l,f,d⟩:=Blk.ofOwns h b;exact⟨⟨some ⟨g,0,none⟩,n,c,z⟩,rfl,⟨j,l,(λe=>by cases e),λ_=>⟨g,rfl,Qzx i f,d⟩⟩,rfl,rfl⟩
theorem Ep:(prog.info? 3).map (λi=>(i.zero,i.size,i.bytes))=some (some (.int .i64 0),1,8):=by kernel_rfl
theorem Pw:(prog.info? 23).map (λi=>(i.zero,i.size,i.bytes))=some (some (.slice none 0 0),1,24):=by kernel_rfl
theorem Dn(b o n c:Nat)(z:Nat->Int)(w:World)(E:n*8<=140737488355328)(W:0<n)
  (hc:vr w (some ⟨b,o,none⟩) n z) :
  Calls prog 101 #[.slice (some ⟨b,o,none⟩) n c] w λe A=>∃g d,e = .returned (.slice (some ⟨g,0,none⟩) n d)/\n<=d/\d<=maxLen/\w.heap.size<=g/\Blk A g 3 n (λj => .int .i64 (z j))/\Below w.heap.size w A:=by
 obtain⟨J,hi,B,y,v⟩:=info_parts Ep;have T:∀(w:World) (a:Option Addr) (n c r d:Nat),(binOp .eql 23 (.slice a n c) (.slice none r d)).run prog w = .ok (.bool a.isNone) w:=λw a n c r d=>Lib.run_eql_slice_nil w _ _ a n c r d underlying23;go_enter func101,ntmps101;go_wp2_with(at_builtin;refine wpList_append_own _ rfl _ _ 23 rfl w.heap.size 3 J (.int .i64 0) 1 8 underlying23 hi B y v rfl (by decide) _ _ _ rfl (World.ownsRow_made w #[] 0 nlr (Qxz _) rfl) ⟨b,o,none⟩ n c ((List.range n).map λj=>Value.int .i64 (z j)) rfl ?qc1 ?qc2 ?qc3 ?qc4 ?qc5 ?qc6 ?_)
 case qc1=>simp
 case qc2 =>
  intro j u l;have q:j<n:=by
   have:=(List.getElem?_eq_some_iff.1 l).1
   simpa using this
  obtain⟨V,U,t,Q,m⟩:=hc j q;simp only[Qkx,Qkz,and_true] at t;obtain⟨rfl,rfl⟩:=t;rw[Go.WideShapes.add_plain];rw[((Below.refl w.heap.size w).alloc nlr _).cell (p:=⟨b,o+j,none⟩) Q,m];simp[q] at l;rw[l]
 case qc3=>intro u M;obtain⟨x,_,rfl⟩:=List.mem_map.1 M;rfl
 case qc4=>unfold maxLen;omega
 case qc5=>omega
 case qc6=>simp
 intro L H i f h;have G:L ≠ .slice none 0 0:=h;obtain⟨g,d,rfl,P,S,F,s⟩:=Blk.ofOwns i G;rw[Nat.mul_one] at s;have K:Below w.heap.size w H:=((Below.refl _ w).alloc nlr _).grown f (by simp) (by intro k D;simp[Value.ownBlock] at D;omega);clear i f h hc
 go_wp2
 go_ret;exact⟨g,d,rfl,P,S,F,s.congr (λj l=>by simp[l]),K⟩
theorem Uv(a:j<n):(madeCells (Value.slice none 0 0).cells n).toList.getD j default = .slice none 0 0:=by
 simp[madeCells,Value.cells,a,Nat.mod_one]
theorem Ip(s:Sh)(w:World)(hs:s.At w)(hn:s.n<=6)(X:∀i,i<s.n->1<=(s.r i).n/\(s.r i).n<=3):
  Calls prog 97 #[s.val] w λe S=>∃(g:Nat) (G C:Nat->Nat),e = .returned (.slice (some ⟨g,0,none⟩) s.n s.n)/\w.heap.size<=g /\
   Blk S g 23 s.n (λi => .slice (some ⟨G i,0,none⟩) (s.r i).n (C i)) /\
   (∀i,i<s.n->g<G i/\(s.r i).n<=C i/\C i<=maxLen/\Blk S (G i) 3 (s.r i).n (λj => .int .i64 ((s.r i).z j))) /\
   (∀i j,i<j->j<s.n->G i<G j)/\Below w.heap.size w S:=by
 obtain⟨ah,B,rows⟩:=hs;obtain⟨s0,q,sc,a⟩:=s;dsimp only at ah B rows hn X;unfold maxLen at B;simp only[Sh.val];obtain⟨i0,hi,af,ae,ad⟩:=info_parts Pw;go_enter func97,ntmps97;go_wp2_with(at_make;refine wpList_make_full _ rfl _ _ 26 rfl w.heap.size 23 i0 (.slice none 0 0) 1 underlying26 hi af ae .i64 .i64 _ _ q rfl rfl rfl rfl (by rw[ad];omega) (by unfold maxLen;omega) nlr ?_;intro w1 A h);obtain⟨g,c',V,_,_,_,v⟩:=Blk.ofOwns A (by simp);simp only[Value.slice.injEq,Qkx,Qkz,and_true] at V;obtain⟨rfl,-,-⟩:=V;rw[Nat.mul_one] at v;have ai:Below w.heap.size w w1:=(Below.refl _ w).grown h nlr (by intro k U;cases U);clear A h
 go_loopw [11] (λi T=>∃k:Nat,k<=q/\i = .int .i64 k/\(∃(G C:Nat->Nat),Blk T w.heap.size 23 q (λi=>if i<k then .slice (some ⟨G i,0,none⟩) (a i).n (C i) else .slice none 0 0) /\
   (∀i,i<k->w.heap.size<G i/\(a i).n<=C i/\C i<=maxLen/\Blk T (G i) 3 (a i).n (λj => .int .i64 ((a i).z j))) /\
   (∀i j,i<j->j<k->G i<G j))/\Below w.heap.size w T) (λi _=>q-(intOf i).toNat)
 case atStart=>exact⟨0,Qxz _,rfl,⟨λ_=>0,λ_=>0,v.congr (λj f=>by rw[Uv f];simp),λi hi=>absurd hi (Qzq _),λi j _ f=>absurd f (Qzq _)⟩,ai⟩
 obtain⟨k,U,rfl,x,F⟩:=hrel;by_cases y:k<q;rotate_left
 .go_wp2_with fail;go_ret;have W:k=q:=by omega
  subst W;obtain⟨G,C,u,c,t⟩:=x;exact⟨w.heap.size,G,C,rfl,Nat.le_refl _,u.congr (λj f=>by simp[f]),c,t,F⟩
 obtain⟨b,o,rfl,hb,z0,aa⟩:=(rows.below F) k y;have az:=X k y;obtain⟨ax,ar,ints⟩:=aa;obtain⟨b1,o1,ha,ay,y0⟩:=ints 0 (by omega);rw[ha] at z0 ints;clear y0;have HG:Hid _:=x;clear x ha;have m1:(0:Int)<=(k:Int):=by omega
 go_wp2_with fail;refine(Dn b1 o1 _ _ (a k).z _ (by omega) (by omega) ints).mono ?_;rintro e Y ⟨g,c2,rfl,h1,h2,h3,h4,D⟩;obtain⟨G,C,u,c,t⟩:=HG.out;have aw:=u.lt;have l:=u.below D;have a0:=l.frozen k;have ab:=l.cell y;simp only[Nat.lt_irrefl,if_false] at ab;have ag:=F.trans (D.mono F.size);have st:=ag.setCell (p:=⟨w.heap.size,k,none⟩) nlr (.slice (some ⟨g,0,none⟩) (a k).n c2);have L:=l.set k (.slice (some ⟨g,0,none⟩) (a k).n c2);have J:∀i,i<k->Blk (Y.setCell ⟨w.heap.size,k,none⟩ (.slice (some ⟨g,0,none⟩) (a k).n c2)) (G i) 3 (a i).n (λj => .int .i64 ((a i).z j)):=λi hi=>((c i hi).2.2.2.below D).other (by have:=(c i hi).1;show _≠w.heap.size;omega) _;have K:Blk (Y.setCell ⟨w.heap.size,k,none⟩ (.slice (some ⟨g,0,none⟩) (a k).n c2)) g 3 (a k).n (λj => .int .i64 ((a k).z j)):=h4.other (by show _≠w.heap.size;omega) _;have E:∀i,i<k->G i<g:=λi hi=>by have:=(c i hi).2.2.2.lt;omega
 have H:Hid _:=And.intro L (And.intro J (And.intro K (And.intro E (And.intro c t))));clear L J K E u l t h4 c;go_wp2_with fail;go_roundw
 case measure=>simp[intOf];omega
 obtain⟨L,J,K,E,c,t⟩:=H.out;refine⟨k+1,by omega,by go_num,⟨λi=>if i=k then g else G i,λi=>if i=k then c2 else C i,L.congr ?_,?_,?_⟩,st⟩
 .intro j f;by_cases d:j=k
  .subst d;simp
  by_cases Q:j<k
  .simp[d,Q,show j<k+1 by omega]
  simp[d,Q,show ¬j<k+1 by omega]
 .intro i hi;by_cases M:i=k
  .subst M;simp only[if_true];exact⟨by omega,h1,h2,K⟩
  simp only[M,if_false];have m:i<k:=by omega
  exact⟨(c i m).1,(c i m).2.1,(c i m).2.2.1,J i m⟩
 intro i j P f;by_cases d:j=k
 .subst d;simp[show ¬i=j by omega,E i P]
 simp[d,show ¬i=k by omega,t i j P (by omega)]
def pi(A:Nat)(e:TypeId)(s:Hs)(w':World)(s':Hs):Prop:=s'.n=s.n/\(∀j,j<s.n->s'.z j=s.z j)/\cz A e w' s'/\fq A w' e 4 s'.a s'.c
theorem cz.ofOwns{base:Nat}(h:w.ownsRow base e 4 v n (ax n z))(d:v ≠ .slice none 0 0):∃s:Hs,v=s.val/\s.n=n/\s.z=z/\cz base e w s/\fq base w e 4 s.a s.c:=by
 obtain⟨g,c,rfl,j,i,f,b⟩:=Blk.ofOwns h d;exact⟨⟨some ⟨g,0,none⟩,n,c,z⟩,rfl,rfl,rfl,⟨j,i,(λe=>by cases e),λ_=>⟨g,rfl,f,b⟩⟩,fq.ofOwns h nlr⟩
theorem Hj:(prog.info? 103).map (λi=>(i.zero,i.size,i.bytes))=some (some (.agg #[.int .i64 0,.int .i64 0,.int .i64 0,.int .i64 0]),4,32):=by kernel_rfl
theorem Pe(s:Hs)(w:World)(hs:s.At w)(Y:s.n<=1000):
  Calls prog 99 #[s.val] w λe J=>∃d:Hs,e = .returned d.val/\pi w.heap.size 103 s J d/\Below w.heap.size w J:=by
 obtain⟨S,A,sh,f⟩:=hs;obtain⟨sa,l,sc,t⟩:=s;dsimp only at S A sh f Y;simp only[Hs.val];obtain⟨U,hi,L,G,F⟩:=info_parts Hj;have ab:∀(w:World) (a:Option Addr) (n c y D:Nat),(binOp .eql 28 (.slice a n c) (.slice none y D)).run prog w = .ok (.bool a.isNone) w:=λw a n c y D=>Lib.run_eql_slice_nil w _ _ a n c y D underlying28;cases sa with
 | none =>
  have Q:=f rfl;subst Q;have M:l=0:=by omega
  subst M;go_enter func99,ntmps99
  go_wp2
  go_ret;exact⟨⟨none,0,0,t⟩,rfl,⟨rfl,λj r=>rfl,⟨Nat.le_refl _,Qxz _,λ_=>rfl,λh=>absurd h (Nat.lt_irrefl _)⟩,Or.inl rfl⟩,Below.refl _ _⟩
 | some ad =>
  have g:∀j u,(ax l t)[j]?=some u->w.cell? (ad.add j)=some u/\(ad.add j).block<w.heap.size:=λj u r=>by
   have B:=(List.getElem?_eq_some_iff.1 r).1;rw[ed] at B;obtain⟨b,o,E,X,-⟩:=sh 0 (by omega);simp only[Qkx] at E;subst E;exact⟨jc.news sh j u r,by rw[Go.WideShapes.add_plain];exact X⟩
  have V:=hid g;clear g sh f;go_enter func99,ntmps99;go_wp2_with(at_builtin;refine wpList_append_own _ rfl _ _ 28 rfl w.heap.size 103 U (.agg #[.int .i64 0,.int .i64 0,.int .i64 0,.int .i64 0]) 4 32 underlying28 hi L G F rfl (by decide) _ _ _ rfl (World.ownsRow_made w #[] 0 nlr (Qxz _) rfl) ad l sc (ax l t) rfl ?qc1 ?qc2 ?qc3 ?qc4 ?qc5 ?qc6 ?_)
  case qc1=>rw[ed]
  case qc2 =>
   intro j u r;have:=V.out j u r;rw[((Below.refl w.heap.size w).alloc nlr _).cell (p:=ad.add j) this.2];exact this.1
  case qc3=>exact me l t
  case qc4=>unfold maxLen;omega
  case qc5=>omega
  case qc6=>simp
  intro v' v q i m;have W:Below w.heap.size w v:=((Below.refl _ w).alloc nlr _).grown i (by simp) (by intro k T;simp[Value.ownBlock] at T;omega);obtain⟨d,rfl,P,K,H⟩:=cz.ofOwns q m;clear q i m;have x:Hid (d.n=l/\d.z=t/\cz w.heap.size 103 v d/\fq w.heap.size v 103 4 d.a d.c):=⟨P,K,H⟩;clear P K H;simp only[Hs.val]
  go_wp2
  go_ret;exact⟨d,rfl,⟨x.out.1,λj _=>by rw[x.out.2.1],x.out.2.2⟩,W⟩
theorem O9:(prog.info? 77).map (λi=>(i.zero,i.size,i.bytes))=some (some (.agg #[.int .i64 0,.int .i64 0,.int .i64 0,.int .i64 0]),4,32):=by kernel_rfl
theorem Po(s:Hs)(w:World)(hs:s.At w)(Y:s.n<=1000):
  Calls prog 100 #[s.val] w λe J=>∃d:Hs,e = .returned d.val/\pi w.heap.size 77 s J d/\Below w.heap.size w J:=by
 obtain⟨S,A,sh,f⟩:=hs;obtain⟨sa,l,sc,t⟩:=s;dsimp only at S A sh f Y;simp only[Hs.val];obtain⟨U,hi,L,G,F⟩:=info_parts O9;have ab:∀(w:World) (a:Option Addr) (n c y D:Nat),(binOp .eql 29 (.slice a n c) (.slice none y D)).run prog w = .ok (.bool a.isNone) w:=λw a n c y D=>Lib.run_eql_slice_nil w _ _ a n c y D underlying29;cases sa with
 | none =>
  have Q:=f rfl;subst Q;have M:l=0:=by omega
  subst M;go_enter func100,ntmps100
  go_wp2
  go_ret;exact⟨⟨none,0,0,t⟩,rfl,⟨rfl,λj r=>rfl,⟨Nat.le_refl _,Qxz _,λ_=>rfl,λh=>absurd h (Nat.lt_irrefl _)⟩,Or.inl rfl⟩,Below.refl _ _⟩
 | some ad =>
  have g:∀j u,(ax l t)[j]?=some u->w.cell? (ad.add j)=some u/\(ad.add j).block<w.heap.size:=λj u r=>by
   have B:=(List.getElem?_eq_some_iff.1 r).1;rw[ed] at B;obtain⟨b,o,E,X,-⟩:=sh 0 (by omega);simp only[Qkx] at E;subst E;exact⟨jc.news sh j u r,by rw[Go.WideShapes.add_plain];exact X⟩
  have V:=hid g;clear g sh f;go_enter func100,ntmps100;go_wp2_with(at_builtin;refine wpList_append_own _ rfl _ _ 29 rfl w.heap.size 77 U (.agg #[.int .i64 0,.int .i64 0,.int .i64 0,.int .i64 0]) 4 32 underlying29 hi L G F rfl (by decide) _ _ _ rfl (World.ownsRow_made w #[] 0 nlr (Qxz _) rfl) ad l sc (ax l t) rfl ?qc1 ?qc2 ?qc3 ?qc4 ?qc5 ?qc6 ?_)
  case qc1=>rw[ed]
  case qc2 =>
   intro j u r;have:=V.out j u r;rw[((Below.refl w.heap.size w).alloc nlr _).cell (p:=ad.add j) this.2];exact this.1
  case qc3=>exact me l t
  case qc4=>unfold maxLen;omega
  case qc5=>omega
  case qc6=>simp
  intro v' v q i m;have W:Below w.heap.size w v:=((Below.refl _ w).alloc nlr _).grown i (by simp) (by intro k T;simp[Value.ownBlock] at T;omega);obtain⟨d,rfl,P,K,H⟩:=cz.ofOwns q m;clear q i m;have x:Hid (d.n=l/\d.z=t/\cz w.heap.size 77 v d/\fq w.heap.size v 77 4 d.a d.c):=⟨P,K,H⟩;clear P K H;simp only[Hs.val]
  go_wp2
  go_ret;exact⟨d,rfl,⟨x.out.1,λj _=>by rw[x.out.2.1],x.out.2.2⟩,W⟩
theorem Dm:(prog.info? 68).map (λi=>(i.zero,i.size,i.bytes))=some (some (.agg #[.int .i64 0,.int .i64 0,.int .i64 0,.int .i64 0]),4,32):=by kernel_rfl
theorem Gy(s:Hs)(w:World)(hs:s.At w)(Y:s.n<=1000):
  Calls prog 56 #[s.val] w λe J=>∃d:Hs,e = .returned d.val/\pi w.heap.size 68 s J d/\Below w.heap.size w J:=by
 obtain⟨S,A,sh,f⟩:=hs;obtain⟨sa,l,sc,t⟩:=s;dsimp only at S A sh f Y;simp only[Hs.val];obtain⟨U,hi,L,G,F⟩:=info_parts Dm;have ab:∀(w:World) (a:Option Addr) (n c y D:Nat),(binOp .eql 32 (.slice a n c) (.slice none y D)).run prog w = .ok (.bool a.isNone) w:=λw a n c y D=>Lib.run_eql_slice_nil w _ _ a n c y D underlying32;cases sa with
 | none =>
  have Q:=f rfl;subst Q;have M:l=0:=by omega
  subst M;go_enter func56,ntmps56
  go_wp2
  go_ret;exact⟨⟨none,0,0,t⟩,rfl,⟨rfl,λj r=>rfl,⟨Nat.le_refl _,Qxz _,λ_=>rfl,λh=>absurd h (Nat.lt_irrefl _)⟩,Or.inl rfl⟩,Below.refl _ _⟩
 | some ad =>
  have g:∀j u,(ax l t)[j]?=some u->w.cell? (ad.add j)=some u/\(ad.add j).block<w.heap.size:=λj u r=>by
   have B:=(List.getElem?_eq_some_iff.1 r).1;rw[ed] at B;obtain⟨b,o,E,X,-⟩:=sh 0 (by omega);simp only[Qkx] at E;subst E;exact⟨jc.news sh j u r,by rw[Go.WideShapes.add_plain];exact X⟩
  have V:=hid g;clear g sh f;go_enter func56,ntmps56;go_wp2_with(at_builtin;refine wpList_append_own _ rfl _ _ 32 rfl w.heap.size 68 U (.agg #[.int .i64 0,.int .i64 0,.int .i64 0,.int .i64 0]) 4 32 underlying32 hi L G F rfl (by decide) _ _ _ rfl (World.ownsRow_made w #[] 0 nlr (Qxz _) rfl) ad l sc (ax l t) rfl ?qc1 ?qc2 ?qc3 ?qc4 ?qc5 ?qc6 ?_)
  case qc1=>rw[ed]
  case qc2 =>
   intro j u r;have:=V.out j u r;rw[((Below.refl w.heap.size w).alloc nlr _).cell (p:=ad.add j) this.2];exact this.1
  case qc3=>exact me l t
  case qc4=>unfold maxLen;omega
  case qc5=>omega
  case qc6=>simp
  intro v' v q i m;have W:Below w.heap.size w v:=((Below.refl _ w).alloc nlr _).grown i (by simp) (by intro k T;simp[Value.ownBlock] at T;omega);obtain⟨d,rfl,P,K,H⟩:=cz.ofOwns q m;clear q i m;have x:Hid (d.n=l/\d.z=t/\cz w.heap.size 68 v d/\fq w.heap.size v 68 4 d.a d.c):=⟨P,K,H⟩;clear P K H;simp only[Hs.val]
  go_wp2
  go_ret;exact⟨d,rfl,⟨x.out.1,λj _=>by rw[x.out.2.1],x.out.2.2⟩,W⟩
structure Od where
 k:Int
 ls:Hs
def Od.val(x:Od):Value := .agg #[.int .i64 x.k,.slice x.ls.a x.ls.n x.ls.c]
def Bd(w:World)(a:Option Addr)(n:Nat)(z:Nat->Od):Prop :=
 ∀i,i<n->∃b o,a=some ⟨b,o,none⟩/\b<w.heap.size/\w.cell? ⟨b,o+i*2,none⟩=some (.int .i64 (z i).k) /\
  w.cell? ⟨b,o+i*2+1,none⟩=some (.slice (z i).ls.a (z i).ls.n (z i).ls.c)/\(z i).ls.At w
theorem Bd.below{e:World}{a:Option Addr}{z:Nat->Od}(h:Bd w a n z)(c:Below w.heap.size w e):Bd e a n z:=by
 intro i hi;obtain⟨b,o,j,d,g,k,f⟩:=h i hi;exact⟨b,o,j,Xzx d c.size,(c.cell (p:=⟨b,o+i*2,none⟩) d).trans g,(c.cell (p:=⟨b,o+i*2+1,none⟩) d).trans k,f.below c⟩
structure Os where
 a:Option Addr
 n:Nat
 c:Nat
 z:Nat->Od
def Os.val(s:Os):Value := .slice s.a s.n s.c
structure Os.At(w:World)(s:Os):Prop where
 le:s.n<=s.c
 cap:s.c<=maxLen
 ods:Bd w s.a s.n s.z
theorem Os.At.below{s:Os}(h:s.At w)(b:Below w.heap.size w a):s.At a:=⟨h.le,h.cap,h.ods.below b⟩
structure St where
 on:Sh
 os:Os
 hs:Hs
 ms:Hs
 si:Rw
 so:Rw
 sf:Rw
variable{s x y:St}
def St.cells(s:St):Array Value:=#[.slice s.on.a s.on.n s.on.c,.slice s.os.a s.os.n s.os.c,.slice s.hs.a s.hs.n s.hs.c,.slice s.ms.a s.ms.n s.ms.c,.slice s.si.a s.si.n s.si.c,.slice s.so.a s.so.n s.so.c,.slice s.sf.a s.sf.n s.sf.c]
def St.val(s:St):Value := .agg #[.slice s.on.a s.on.n s.on.c,.slice s.os.a s.os.n s.os.c,.slice s.hs.a s.hs.n s.hs.c,.slice s.ms.a s.ms.n s.ms.c,.slice s.si.a s.si.n s.si.c,.slice s.so.a s.so.n s.so.c,.slice s.sf.a s.sf.n s.sf.c]
structure St.At(w:World)(s:St):Prop where
 on:s.on.At w
 os:s.os.At w
 hs:s.hs.At w
 ms:s.ms.At w
 si:s.si.At w
 so:s.so.At w
 sf:s.sf.At w
theorem St.At.below{b:World}(h:s.At w)(a:Below w.heap.size w b):s.At b:=⟨h.on.below a,h.os.below a,h.hs.below a,h.ms.below a,h.si.below a,h.so.below a,h.sf.below a⟩
def qd(o:Od):Bool := !inB o.ls.n 1 3
def gh(s:St):Bool:=decide (4<s.os.n)||decide (8<s.ms.n)||aw s.os.n (λi=>qd (s.os.z i))
def jx(p:Pl)(x:Hd):Bool := !inB x.o 0 ((p.ns:Int)-1) || !inB x.l 1 200 || !inB x.b 0 x.l || !inB x.n 0 x.l
def lr(p:Pl)(o:Od):Bool := !inB o.k 0 2||aw o.ls.n (λj=>jx p (o.ls.z j))
def jh(p:Pl)(s:St):Bool:=aw s.os.n (λi=>lr p (s.os.z i))
def i7(p:Pl)(s:St)(h:Hd):Bool := !inB h.o 0 ((s.os.n:Int)-1) || !inB h.l 0 (((s.os.z h.o.toNat).ls.n:Int)-1) || !inB h.b 0 ((p.nb:Int)-1)
def gu(p:Pl)(s:St):Bool := !(h9 s.hs.n s.hs.z==0)||aw s.hs.n (λi=>i7 p s (s.hs.z i))
def l6(p:Pl)(m:Hd):Bool := !inB m.o 0 ((p.ns:Int)-1) || !inB m.l 0 ((p.nb:Int)-1) || !inB m.b 0 ((p.nb:Int)-1)||(m.l==m.b) || !inB m.n 1 200
def j9(p:Pl)(s:St):Bool:=aw s.ms.n (λi=>l6 p (s.ms.z i))
def lu(p:Pl)(l:Rw)(low:Int):Bool:=((l.n:Int) !=(p.ns:Int))||aw l.n (λi => !inB (l.z i) low 1048576)
def fo(p:Pl)(s:St):Bool:=lu p s.si 0||lu p s.so 0||lu p s.sf (-1048576)
def jo(s:St)(h:Hd):Int:=((s.os.z h.o.toNat).ls.z h.l.toNat).o
def ca(s:St)(b g:Int):Nat->Int
 | 0=>0
 | k+1=>ca s b g k+(if (s.hs.z k).b=b/\jo s (s.hs.z k)=g then(s.hs.z k).n else 0)
def az(s:St)(b g:Int):Nat->Int
 | 0=>0
 | k+1=>az s b g k+(if (s.ms.z k).l=b/\(s.ms.z k).o=g then(s.ms.z k).n else 0)
def ar(s:St)(b g:Nat):Int:=(s.on.r b).z g-ca s b g s.hs.n-az s b g s.ms.n
def ii(p:Pl)(s:St)(g:Nat):Bool := !(cv (λi=>(s.on.r i).z g) s.on.n==s.si.z g-s.so.z g+s.sf.z g)||aw p.nb (λb=>decide (ar s b g<0))
def kw(p:Pl)(s:St):Bool:=aw p.ns (ii p s)
def js(x:Hd):Bool := !(x.b==x.l)
def cp(k:Int)(x:Hd)(kept:Int):Bool:=if k=0 then !(x.b==0) || !(x.n==0) || !(kept==0) else if k=2 then !(x.b+x.n==x.l) || !(kept==0) else !(x.b+x.n+kept==x.l)
def cg(s:St)(i:Nat):Bool:=((s.os.z i).k==1 && !aw (s.os.z i).ls.n (λj=>js ((s.os.z i).ls.z j)))||aw (s.os.z i).ls.n (λj=>cp (s.os.z i).k ((s.os.z i).ls.z j) (keptS s.hs.z i j s.hs.n))
def jf(s:St):Bool:=aw s.os.n (cg s)
def ah(p:Pl)(s:St):Int :=
 if ey p s.on=0 then(if gh s then 2 else if jh p s||gu p s||j9 p s||fo p s then 1 else if kw p s||jf s then 7 else 0) else ey p s.on
structure cw(p:Pl)(s:St):Prop where
 sh:tr p s.on
 sh0:ey p s.on=0
 os4:s.os.n<=4
 ms8:s.ms.n<=8
 lns:∀i,i<s.os.n->1<=(s.os.z i).ls.n/\(s.os.z i).ls.n<=3
 kind:∀i,i<s.os.n->0<=(s.os.z i).k/\(s.os.z i).k<=2
 line:∀i,i<s.os.n->∀j,j<(s.os.z i).ls.n->jx p ((s.os.z i).ls.z j)=false
 hold:aw s.hs.n (da s.hs.z)=false
 home:∀i,i<s.hs.n->i7 p s (s.hs.z i)=false
 move:∀i,i<s.ms.n->l6 p (s.ms.z i)=false
 sin:s.si.n=p.ns
 son:s.so.n=p.ns
 sfn:s.sf.n=p.ns
 sib:∀j,j<p.ns->0<=s.si.z j/\s.si.z j<=1048576
 sob:∀j,j<p.ns->0<=s.so.z j/\s.so.z j<=1048576
 sfb:∀j,j<p.ns -> -1048576<=s.sf.z j/\s.sf.z j<=1048576
theorem Iu{l:Rw}(h:lu p l r=false):l.n=p.ns/\∀j,j<p.ns->r<=l.z j/\l.z j<=1048576:=by
 unfold lu at h;rw[Xxq] at h;have a:l.n=p.ns:=by have c:(l.n:Int)=(p.ns:Int):=(by simpa using h.1);omega
 refine⟨a,λj b => ?_⟩;have:=dj h.2 j (by omega);simp only[Bool.not_eq_false'] at this;exact aq this
theorem formed(l:ey p s.on=0)(k:gh s=false)(u:jh p s=false)(h:gu p s=false)(o:j9 p s=false)(g:fo p s=false):cw p s:=by
 unfold gh at k;unfold gu at h;unfold fo at g;simp only[Xxq,decide_eq_false_iff_not] at k h g;obtain⟨a,b⟩:=Iu g.1.1;obtain⟨c,d⟩:=Iu g.1.2;obtain⟨e,f⟩:=Iu g.2;have m:∀i,i<s.os.n->lr p (s.os.z i)=false:=dj u;refine⟨(ts l).2,l,by omega,by omega,λi hi => ?_,λi hi => ?_,λi hi j r => ?_,?_,dj h.2,dj o,a,c,e,b,d,f⟩
 .have:=dj k.2 i hi;simp only[qd,Bool.not_eq_false'] at this;have:=aq this;omega
 .have:=m i hi;simp only[lr,Xxq,Bool.not_eq_false'] at this;exact aq this.1
 .have:=m i hi;simp only[lr,Xxq] at this;exact dj this.2 j r
 have t:=h.1;cases q:aw s.hs.n (da s.hs.z)
 .rfl
 simp[h9,q] at t
theorem iu(e:i7 p s h=false):(0<=h.o/\h.o.toNat<s.os.n)/\(0<=h.l/\h.l.toNat<(s.os.z h.o.toNat).ls.n)/\0<=h.b/\h.b<p.nb:=by
 simp only[i7,Xxq,Bool.not_eq_false'] at e;obtain⟨⟨a,b⟩,c⟩:=e;have:=aq a;have:=aq b;have:=aq c;omega
theorem qs{m:Hd}(e:l6 p m=false):(0<=m.o/\m.o<p.ns)/\(0<=m.l/\m.l<p.nb)/\(0<=m.b/\m.b<p.nb)/\¬m.l=m.b/\1<=m.n/\m.n<=200:=by
 simp only[l6,Xxq,Bool.not_eq_false',beq_eq_false_iff_ne,ne_eq] at e;obtain⟨⟨⟨⟨a,b⟩,c⟩,d⟩,f⟩:=e;have:=aq a;have:=aq b;have:=aq c;have:=aq f;omega
theorem dz{x:Hd}(e:jx p x=false):(0<=x.o/\x.o<p.ns)/\(1<=x.l/\x.l<=200)/\(0<=x.b/\x.b<=x.l)/\0<=x.n/\x.n<=x.l:=by
 simp only[jx,Xxq,Bool.not_eq_false'] at e;obtain⟨⟨⟨a,b⟩,c⟩,d⟩:=e;have:=aq a;have:=aq b;have:=aq c;have:=aq d;omega
theorem mt{s:St}{b g:Int}:∀{n:Nat},(∀j,j<n->1<=(s.hs.z j).n/\(s.hs.z j).n<=200)->0<=ca s b g n/\ca s b g n<=200*n
 | 0,_=>by simp[ca]
 | n+1,h=>by
  have c:=mt (b:=b) (g:=g) (n:=n) λj a=>h j (by omega);have:=h n (by omega);simp only[ca]
  split<;>omega
theorem jr{s:St}{b g:Int}:∀{n:Nat},(∀j,j<n->1<=(s.ms.z j).n/\(s.ms.z j).n<=200)->0<=az s b g n/\az s b g n<=200*n
 | 0,_=>by simp[az]
 | n+1,h=>by
  have c:=jr (b:=b) (g:=g) (n:=n) λj a=>h j (by omega);have:=h n (by omega);simp only[az]
  split<;>omega
theorem cw.holdN(f:cw p s):∀j,j<s.hs.n->1<=(s.hs.z j).n/\(s.hs.z j).n<=200:=λj a=>(cy (bw f.hold j a)).2.2.2
theorem cw.moveN(f:cw p s):∀j,j<s.ms.n->1<=(s.ms.z j).n/\(s.ms.z j).n<=200:=λj a=>(qs (f.move j a)).2.2.2.2
theorem cw.hs72(f:cw p s):s.hs.n<=72:=wh f.hold
structure au(p:Pl)(s:St):Prop where
 fm:cw p s
 goods:∀g,g<p.ns->ii p s g=false
 orders:∀i,i<s.os.n->cg s i=false
theorem ew(h:ah p s=0):au p s:=by
 unfold ah at h;by_cases c:ey p s.on=0
 .rw[if_pos c] at h;cases d:gh s
  .rw[d] at h;cases a:(jh p s||gu p s||j9 p s||fo p s)
   .rw[a] at h;cases b:(kw p s||jf s)
    .simp only[Xxq] at a b;exact⟨formed c d a.1.1.1 a.1.1.2 a.1.2 a.2,dj b.1,dj b.2⟩
    rw[b] at h;simp at h
   rw[a] at h;simp at h
  rw[d] at h;simp at h
 rw[if_neg c] at h;exact absurd h c
def p8(x:Od):List Value:=[.int .i64 x.k,.slice x.ls.a x.ls.n x.ls.c]
def jn:Nat->(Nat->Od)->List Value
 | 0,_=>[]
 | n+1,z=>jn n z++p8 (z n)
theorem sw:∀(n:Nat) (z:Nat->Od),(jn n z).length=n*2
 | 0,_=>rfl
 | n+1,z=>by rw[jn,List.length_append,sw n z];simp[p8];omega
theorem Hf:∀(n:Nat) (z:Nat->Od) (i c:Nat),i<n->c<2->(jn n z)[i*2+c]?=(p8 (z i))[c]?
 | 0,_,i,c,hi,_=>absurd hi (Qzq _)
 | n+1,z,i,c,hi,hc=>by
  rw[jn];by_cases h:i=n
  .subst h;rw[List.getElem?_append_right (by rw[sw];omega),sw]
   congr 1
   omega
  rw[List.getElem?_append_left (by rw[sw];omega)];exact Hf n z i c (by omega) hc
theorem qc{z:Nat->Od}{c:Nat}(hi:i<n)(hc:c<2):(jn n z).getD (i*2+c) default=(p8 (z i)).getD c default:=by
 simp only[List.getD,Hf n z i c hi hc]
theorem Pb:∀(n:Nat) (z:Nat->Od),∀u∈jn n z,u.oneCell'=true
 | 0,_,u,a=>by simp[jn] at a
 | n+1,z,u,a=>by
  rw[jn,List.mem_append] at a;rcases a with a|a
  .exact Pb n z u a
  simp only[p8,List.mem_cons,List.not_mem_nil,or_false] at a;rcases a with rfl|rfl<;>rfl
theorem Bd.news{z:Nat->Od}(h:Bd w (some ⟨b,o,none⟩) n z):∀j u,(jn n z)[j]?=some u->w.cell? ((⟨b,o,none⟩:Addr).add j)=some u:=by
 intro j u a;have d:=(List.getElem?_eq_some_iff.1 a).1;rw[sw] at d;obtain⟨k,i,e,l,g,f,-⟩:=h (j/2) (by omega);simp only[Qkx,Qkz,and_true] at e;obtain⟨rfl,rfl⟩:=e;rw[Go.WideShapes.add_plain];have hd:j=j/2*2+j%2:=by omega
 rw[hd,Hf n z (j/2) (j%2) (by omega) (by omega)] at a;have c:j%2=0\/j%2=1:=by omega
 rcases c with c|c
 .rw[c] at a;simp[p8] at a;rw[<-a,<-g];congr 2;omega
 rw[c] at a;simp[p8] at a;rw[<-a,<-f];congr 2;omega
theorem Ca:(prog.info? 66).map (λi=>(i.zero,i.size,i.bytes))=some (some (.agg #[.int .i64 0,.slice none 0 0]),2,32):=by kernel_rfl
def Tg(s:Os)(A:Nat)(w':World)(a':Option Addr)(c':Nat):Prop:=s.n<=c'/\c'<=maxLen/\(0<s.n->∃g,a'=some ⟨g,0,none⟩/\A<=g/\Blk w' g 66 (s.n*2) (λj=>(jn s.n s.z).getD j default))/\fq A w' 66 2 a' c'
theorem Mx(s:Os)(w:World)(hs:s.At w)(W:s.n<=1000):
  Calls prog 145 #[s.val] w λe F=>∃a' d,e = .returned (.slice a' s.n d)/\Tg s w.heap.size F a' d/\Below w.heap.size w F:=by
 obtain⟨J,y,sh⟩:=hs;obtain⟨sa,i,K,v⟩:=s;dsimp only at J y sh W;simp only[Os.val];obtain⟨Q,hi,G,E,D⟩:=info_parts Ca;have Y:∀(w:World) (a:Option Addr) (n c x d:Nat),(binOp .eql 27 (.slice a n c) (.slice none x d)).run prog w = .ok (.bool a.isNone) w:=λw a n c x d=>Lib.run_eql_slice_nil w _ _ a n c x d underlying27;cases sa with
 | none =>
  have H:i=0:=by
   rcases Nat.eq_zero_or_pos i with h|h
   .exact h
   obtain⟨b,o,r,_⟩:=sh 0 h;cases r
  subst H;go_enter func145,ntmps145
  go_wp2
  go_ret;exact⟨none,0,rfl,⟨Nat.le_refl _,Qxz _,λh=>absurd h (Nat.lt_irrefl _),Or.inl rfl⟩,Below.refl _ _⟩
 | some ad =>
  have S:Hid (∀j u,(jn i v)[j]?=some u->w.cell? (ad.add j)=some u/\(ad.add j).block<w.heap.size):=λj u t=>by
   have z:=(List.getElem?_eq_some_iff.1 t).1;rw[sw] at z;obtain⟨b,o,r,V,-⟩:=sh 0 (by omega);simp only[Qkx] at r;subst r;exact⟨Bd.news sh j u t,by rw[Go.WideShapes.add_plain];exact V⟩
  clear sh;go_enter func145,ntmps145;go_wp2_with(at_builtin;refine wpList_append_own _ rfl _ _ 27 rfl w.heap.size 66 Q (.agg #[.int .i64 0,.slice none 0 0]) 2 32 underlying27 hi G E D rfl (by decide) _ _ _ rfl (World.ownsRow_made w #[] 0 nlr (Qxz _) rfl) ad i K (jn i v) rfl ?qc1 ?qc2 ?qc3 ?qc4 ?qc5 ?qc6 ?_)
  case qc1=>rw[sw]
  case qc2 =>
   intro j u t;have:=S.out j u t;rw[((Below.refl w.heap.size w).alloc nlr _).cell (p:=ad.add j) this.2];exact this.1
  case qc3=>exact Pb i v
  case qc4=>unfold maxLen;omega
  case qc5=>omega
  case qc6=>simp
  intro v' B f m q;have T:Below w.heap.size w B:=((Below.refl _ w).alloc nlr _).grown m (by simp) (by intro k L;simp[Value.ownBlock] at L;omega);obtain⟨g,d,rfl,U,X,M,A⟩:=Blk.ofOwns f q;have l:=fq.ofOwns f nlr;clear f m q;have P:Hid (Tg ⟨some ad,i,K,v⟩ w.heap.size B (some ⟨g,0,none⟩) d):=⟨U,X,λ_=>⟨g,rfl,M,A⟩,l⟩;clear A l
  go_wp2
  go_ret;exact⟨some ⟨g,0,none⟩,d,rfl,P.out,T⟩
structure j7(A:Nat)(w:World)(s:Os):Prop where
 le:s.n<=s.c
 cap:s.c<=maxLen
 list:0<s.n->∃g,s.a=some ⟨g,0,none⟩/\A<=g/\Blk w g 66 (s.n*2) (λj=>(jn s.n s.z).getD j default)
 lines:∀i,i<s.n->∃B,(s.z i).ls.a=some ⟨B,0,none⟩/\A<=B/\(s.z i).ls.n<=(s.z i).ls.c/\(s.z i).ls.c<=maxLen/\Blk w B 68 ((s.z i).ls.n*4) (λj=>(ax (s.z i).ls.n (s.z i).ls.z).getD j default)
 apart:∀i j,i<j->j<s.n->(s.z i).ls.a≠(s.z j).ls.a
 room:fq A w 66 2 s.a s.c
theorem j7.at{s:Os}(h:j7 A w s):s.At w:=by
 refine⟨h.le,h.cap,λi hi => ?_⟩;obtain⟨g,n,o,a⟩:=h.list (by omega);obtain⟨B,f,c,l,k,d⟩:=h.lines i hi;have b:=a.cell (j:=i*2) (by omega);have c1:=a.cell (j:=i*2+1) (by omega);have e0:=qc (z:=s.z) hi (show 0<2 by decide);have m:=qc (z:=s.z) hi (show 1<2 by decide);rw[Nat.add_zero] at e0;rw[e0] at b;rw[m] at c1;refine⟨g,0,n,a.lt,by rw[Nat.zero_add];exact b,by rw[Nat.zero_add];exact c1,?_⟩;exact cz.at (A:=A) (e:=68) ⟨l,k,(λe=>by rw[f] at e;cases e),λ_=>⟨B,f,c,d⟩⟩
def Tw(s t:Os):Prop:=s.n=t.n/\∀i,i<s.n->(s.z i).k=(t.z i).k/\(s.z i).ls.n=(t.z i).ls.n/\∀j,j<(s.z i).ls.n->(s.z i).ls.z j=(t.z i).ls.z j
def l9(s:Os)(k:Nat)(B C:Nat->Nat)(i:Nat):Od:=if i<k then ⟨(s.z i).k,⟨some ⟨B i,0,none⟩,(s.z i).ls.n,C i,(s.z i).ls.z⟩⟩ else s.z i
def abg(s:Os)(A:Nat)(a':Option Addr)(c' k:Nat)(wk:World):Prop:=fq A wk 66 2 a' c'/\∃B C:Nat->Nat,(0<s.n->∃g,a'=some ⟨g,0,none⟩/\A<=g/\Blk wk g 66 (s.n*2) (λj=>(jn s.n (l9 s k B C)).getD j default)) /\
 (∀i,i<k->A<=B i/\(s.z i).ls.n<=C i/\C i<=maxLen/\Blk wk (B i) 68 ((s.z i).ls.n*4) (λj=>(ax (s.z i).ls.n (s.z i).ls.z).getD j default))/\(∀i j,i<j->j<k->B i<B j)
theorem yh:∀{n:Nat} {z z':Nat->Od},(∀i,i<n->p8 (z i)=p8 (z' i))->jn n z=jn n z'
 | 0,_,_,_=>rfl
 | n+1,z,z',h=>by rw[jn,jn,yh (n:=n) λi hi=>h i (by omega),h n (by omega)]
theorem Yr{s:Os}{k:Nat}{B C:Nat->Nat}{a:Nat}(o:k<s.n)(j:Nat)(p:j<s.n*2):
  (if j=k*2+1 then Value.slice (some ⟨a,0,none⟩) (s.z k).ls.n b else(jn s.n (l9 s k B C)).getD j default)=(jn s.n (l9 s (k+1) (λi=>if i=k then a else B i) (λi=>if i=k then b else C i))).getD j default:=by
 have hd:j=j/2*2+j%2:=by omega
 have c:j%2=0\/j%2=1:=by omega
 have hi:j/2<s.n:=by omega
 have f:=qc (z:=l9 s k B C) hi (show j%2<2 by omega);have g:=qc (z:=l9 s (k+1) (λi=>if i=k then a else B i) (λi=>if i=k then b else C i)) hi (show j%2<2 by omega);rw[<-hd] at f g;rw[f,g];by_cases d:j/2=k
 .have h:l9 s k B C (j/2)=s.z k:=by unfold l9;rw[if_neg (by omega),d]
  have l:l9 s (k+1) (λi=>if i=k then a else B i) (λi=>if i=k then b else C i) (j/2)=⟨(s.z k).k,⟨some ⟨a,0,none⟩,(s.z k).ls.n,b,(s.z k).ls.z⟩⟩:=by unfold l9;rw[if_pos (by omega)];simp[d]
  rw[h,l];rcases c with c|c
  .rw[if_neg (by omega),c];rfl
  rw[if_pos (by omega),c];rfl
 rw[if_neg (by omega)];have m:l9 s k B C (j/2)=l9 s (k+1) (λi=>if i=k then a else B i) (λi=>if i=k then b else C i) (j/2):=by
  unfold l9;by_cases e:j/2<k
  .rw[if_pos e,if_pos (by omega)];simp[d]
  rw[if_neg e,if_neg (by omega)]
 rw[m]
theorem Nh(s:Os)(w:World)(hs:s.At w)(hn:s.n<=1000)(hl:∀i,i<s.n->1<=(s.z i).ls.n/\(s.z i).ls.n<=3):
  Calls prog 98 #[s.val] w λe w'=>∃Q:Os,e = .returned Q.val/\Tw Q s/\j7 w.heap.size w' Q/\Below w.heap.size w w':=by
 have HS:=hid hs;have HL:=hid hl;have bh:=hs.le;have ai:=hs.cap;unfold maxLen at ai;clear hs hl;simp only[Os.val];go_enter func98,ntmps98;go_wp2_with fail;refine(Mx s w HS.out hn).mono ?_;rintro e w1 ⟨a',c',rfl,E,ad⟩;have t:=hid E;clear E;have c1:=t.out.1;have c2:=t.out.2.1;unfold maxLen at c2;go_wp2_with fail
 go_loopw [10] (λi wk=>∃k:Nat,k<=s.n/\i = .int .i64 k/\Hid (abg s w.heap.size a' c' k wk)/\Below w.heap.size w wk) (λi _=>s.n-(intOf i).toNat)
 case atStart =>
  refine⟨0,Qxz _,rfl,⟨t.out.2.2.2,λ_=>0,λ_=>0,λh => ?_,λi hi=>absurd hi (Qzq _),λi j _ u=>absurd u (Qzq _)⟩,ad⟩;obtain⟨g,V,U,e3⟩:=t.out.2.2.1 h;exact⟨g,V,U,e3.congr (λj u=>by rw[yh (z':=l9 s 0 (λ_=>0) (λ_=>0)) λi hi=>by unfold l9;rw[if_neg (by omega)]])⟩
 clear ad;obtain⟨k,hk,rfl,HG,K⟩:=hrel;by_cases F:k<s.n;rotate_left
 .have am:k=s.n:=by omega
  subst am;go_wp2_with fail;go_ret;obtain⟨d,B,C,D,q,r⟩:=HG.out;refine⟨⟨a',s.n,c',l9 s s.n B C⟩,rfl,⟨rfl,λi hi => ?_⟩,⟨c1,t.out.2.1,D,λi hi => ?_,λi j A u => ?_,d⟩,K⟩
  .have y:i<s.n:=hi;have m:l9 s s.n B C i=⟨(s.z i).k,⟨some ⟨B i,0,none⟩,(s.z i).ls.n,C i,(s.z i).ls.z⟩⟩:=by unfold l9;rw[if_pos y]
   show(l9 s s.n B C i).k=_/\(l9 s s.n B C i).ls.n=_/\_;rw[m];exact⟨rfl,rfl,λj _=>by show(l9 s s.n B C i).ls.z j=_;rw[m]⟩
  .have y:i<s.n:=hi;have m:l9 s s.n B C i=⟨(s.z i).k,⟨some ⟨B i,0,none⟩,(s.z i).ls.n,C i,(s.z i).ls.z⟩⟩:=by unfold l9;rw[if_pos y]
   show ∃B',(l9 s s.n B C i).ls.a=_/\_/\(l9 s s.n B C i).ls.n<=(l9 s s.n B C i).ls.c/\(l9 s s.n B C i).ls.c<=maxLen/\Blk _ B' _ ((l9 s s.n B C i).ls.n*4) (λj=>(ax (l9 s s.n B C i).ls.n (l9 s s.n B C i).ls.z).getD j default);rw[m];obtain⟨r1,r2,r3,r4⟩:=q i y;exact⟨B i,rfl,r1,r2,r3,r4⟩
  have X:j<s.n:=u;show(l9 s s.n B C i).ls.a≠(l9 s s.n B C j).ls.a;unfold l9;rw[if_pos (by omega),if_pos X];have:=r i j A X;simp only[ne_eq,Qkx,Qkz,and_true];omega
 obtain⟨b,o,aa,hb,z0,z1,ac⟩:=(HS.out.below K).ods k F;have qk:(0:Int)<=(k:Int):=by omega
 obtain⟨d,B,C,D,q,r⟩:=HG.out;have a3:=hid d;obtain⟨g,J,hA,gb⟩:=D (by omega);have T:=qa3 q r J;have Y:=hid gb;have be:=HL.out k F;have x:=(Below.refl wr.heap.size wr).alloc nlr (.cells #[.int .i64 (s.z k).k,.slice (s.z k).ls.a (s.z k).ls.n (s.z k).ls.c] 66);have P:=ac.below x;rw[aa,J];clear aa J D q r gb HG ac d;go_wp2_with fail;refine(Gy (s.z k).ls _ P (by omega)).mono ?_;rintro e S ⟨Q,rfl,E,ab⟩;obtain⟨bg,a9,v,bf⟩:=Q;obtain⟨V,U,⟨o1,o2,o3,o4⟩,-⟩:=E;dsimp only at V U o1 o2 o3 o4;subst V;obtain⟨G,e3,bb,kB⟩:=o4 (by omega);subst e3;have M:Blk S G 68 ((s.z k).ls.n*4) (λj=>(ax (s.z k).ls.n (s.z k).ls.z).getD j default):=kB.congr (λj u=>by rw[mw U]);have l:=x.trans (ab.mono x.size);have f:=Y.out.below l;have ba:=x.size;have hf:=f.frozen (k*2+1);have hc:=f.cell (j:=k*2+1) (by omega);rw[qc (z:=l9 s k B C) F (show 1<2 by decide)] at hc;have hm:l9 s k B C k=s.z k:=by unfold l9;rw[if_neg (by omega)]
 rw[hm] at hc;have bc:S.cell? ⟨g,k*2+1,none⟩=some (.slice (s.z k).ls.a (s.z k).ls.n (s.z k).ls.c):=hc;have bd:=f.lt;have L:=K.trans (l.mono K.size);have KB:=f.set (k*2+1) (.slice (some ⟨G,0,none⟩) (s.z k).ls.n v);have HN:Hid (abg s w.heap.size (some ⟨g,0,none⟩) c' (k+1) (S.setCell ⟨g,k*2+1,none⟩ (.slice (some ⟨G,0,none⟩) (s.z k).ls.n v))/\Below w.heap.size w (S.setCell ⟨g,k*2+1,none⟩ (.slice (some ⟨G,0,none⟩) (s.z k).ls.n v))):=by
  refine⟨⟨(by have h:=(a3.out.below l).set g (k*2+1) (.slice (some ⟨G,0,none⟩) (s.z k).ls.n v);rw[T.out.2.2] at h;exact h),λi=>if i=k then G else B i,λi=>if i=k then v else C i,λ_=>⟨g,rfl,hA,KB.congr (λj u=>Yr F j u)⟩,λi hi => ?_,λi j A u => ?_⟩,L.setCell (p:=⟨g,k*2+1,none⟩) hA _⟩
  .dsimp only;by_cases H:i=k
   .subst H;rw[if_pos rfl,if_pos rfl];exact⟨by have:=K.size;omega,o1,o2,M.other (a:=⟨g,i*2+1,none⟩) (Blk.ne2 M f (by decide)) _⟩
   rw[if_neg H,if_neg H];obtain⟨r1,r2,r3,r4⟩:=T.out.1 i (by omega);have r5:=r4.below l;exact⟨r1,r2,r3,r5.other (a:=⟨g,k*2+1,none⟩) (Blk.ne2 r5 f (by decide)) _⟩
  dsimp only;by_cases W:j=k
  .subst W;rw[if_neg (by omega),if_pos rfl];have:=(T.out.1 i A).2.2.2.lt;omega
  rw[if_neg (by omega),if_neg W];exact T.out.2.1 i j A (by omega)
 clear KB kB M f hc hm l Y ab P L;simp only[Hs.val];go_wp2_with fail;go_roundw
 case rel=>exact⟨k+1,by omega,by go_num,HN.out.1,HN.out.2⟩
 case measure=>simp[intOf];omega
def ace:Nat->Bin
 | 0=>⟨false,100,0,0⟩
 | 1=>⟨true,30,4,8⟩
 | _=>⟨false,60,0,0⟩
def ab1:Nat->Int
 | 0=>2
 | _=>3
def py(g1 g2:Nat):Pl:=⟨some ⟨g1,0,none⟩,3,3,ace,some ⟨g2,0,none⟩,2,2,ab1⟩
def Z7:Nat->Value:=λj=>(#[.bool false,.int .i64 100,.int .i64 0,.int .i64 0,.bool true,.int .i64 30,.int .i64 4,.int .i64 8,.bool false,.int .i64 60,.int .i64 0,.int .i64 0]:Array Value).getD j default
def Z3:Nat->Value:=λj=>(#[.int .i64 2,.int .i64 3]:Array Value).getD j default
theorem Ws{d e:Nat}(a:Blk w d 112 12 Z7)(c:Blk w e 3 2 Z3):(py d e).At w:=by
 refine⟨by simp[py],by simp[py,maxLen],λi hi => ?_,by simp[py],by simp[py,maxLen],λi hi => ?_⟩
 .have b:i<3:=hi;refine⟨d,0,rfl,a.lt,?_⟩
  match i,b with
  | 0,_=>exact⟨a.k 0,a.k 1,a.k 2,a.k 3⟩
  | 1,_=>exact⟨a.k 4,a.k 5,a.k 6,a.k 7⟩
  | 2,_=>exact⟨a.k 8,a.k 9,a.k 10,a.k 11⟩
 have b:i<2:=hi;refine⟨e,0,rfl,c.lt,?_⟩
 match i,b with
 | 0,_=>exact c.k 0
 | 1,_=>exact c.k 1
theorem P7(w:World):
  Calls prog 25 #[] w λe a=>∃g1 g2,e = .returned (py g1 g2).val/\w.heap.size<=g1/\g1≠g2/\Blk a g1 112 12 Z7/\Blk a g2 3 2 Z3/\Below w.heap.size w a:=by
 go_enter func25,ntmps25
 go_wp2
 refine Xzq (v:=(py (w.heap.size+1) (w.heap.size+1+1)).val) (by simp[results,results25,go_sem,py,Pl.val]) rfl ?_;refine⟨w.heap.size+1,w.heap.size+1+1,rfl,by omega,by omega,Blk.alloc (Blk.mk' (by simp) rfl) _,Blk.mk' (by simp) rfl,?_⟩;exact((brf.alloc nlr _).alloc (by simp) _).alloc (by simp;omega) _
def onZ:Nat->Nat->Int
 | 0,0=>5
 | 1,0=>1
 | 1,1=>2
 | _,_=>0
def onS(g:Nat)(n:Nat):Sh:=⟨some ⟨g+3,0,none⟩,n,3,λi=>⟨some ⟨g+i,0,none⟩,2,2,onZ i⟩⟩
open Go.Sort
theorem Ad(r s:Rw)(w:World)(u:r.At w)(hs:s.At w)(v:r.n=s.n)(l:∀j,j<r.n->r.z j=s.z j):
  Calls prog 42 #[r.val,s.val] w λe q=>e = .returned (.bool true)/\Below w.heap.size w q:=by
 obtain⟨ra,h,J,o⟩:=r;obtain⟨sa,G,K,L⟩:=s;obtain⟨y,g,d⟩:=u;obtain⟨D,f,b⟩:=hs;dsimp only at *;subst v;have x:Hid _:=l;clear l;unfold maxLen at g f;simp only[Rw.val];go_enter func42,ntmps42;go_wp2_with fail
 go_loopw [5] (λi p=>∃k:Nat,k<=h/\i = .int .i64 k/\Below w.heap.size w p) (λi _=>h-(intOf i).toNat)
 case atStart=>exact⟨0,Qxz _,rfl,Below.refl _ _⟩
 obtain⟨k,E,rfl,c⟩:=hrel;by_cases a:k<h
 .obtain⟨b1,F,rfl,B,t⟩:=(d.below c) k a;obtain⟨b2,H,rfl,A,m⟩:=(b.below c) k a;rw[<-x.out k a] at m
  generalize o k=Z at t m
  go_wp2_with fail
  go_quiet (fail)
  go_wp2_with fail;go_roundw
  case rel=>exact⟨k+1,by omega,by go_num,below_drewN c _⟩
  case measure=>simp[intOf];omega
 go_wp2_with fail;go_ret;exact⟨rfl,c⟩
theorem Q8(r s:Sh)(w:World)(A:r.At w)(hs:s.At w)(B:r.n=s.n)(p:∀i,i<r.n->(r.r i).n=(s.r i).n/\∀j,j<(r.r i).n->(r.r i).z j=(s.r i).z j):
  Calls prog 40 #[r.val,s.val] w λe x=>e = .returned (.bool true)/\Below w.heap.size w x:=by
 obtain⟨ra,l,X,D⟩:=r;obtain⟨sa,V,Y,E⟩:=s;obtain⟨J,h,c⟩:=A;obtain⟨M,f,d⟩:=hs;dsimp only at *;subst B;have G:Hid _:=p;clear p;unfold maxLen at h f;simp only[Sh.val];go_enter func40,ntmps40;go_wp2_with fail
 go_loopw [5] (λi v=>∃k:Nat,k<=l/\i = .int .i64 k/\Below w.heap.size w v) (λi _=>l-(intOf i).toNat)
 case atStart=>exact⟨0,Qxz _,rfl,Below.refl _ _⟩
 obtain⟨k,P,rfl,b⟩:=hrel;by_cases a:k<l;rotate_left
 .go_wp2_with fail;go_ret;exact⟨rfl,b⟩
 obtain⟨b1,S,rfl,L,y,u⟩:=(c.below b) k a;obtain⟨b2,W,rfl,K,F,t⟩:=(d.below b) k a;have m:=G.out k a;have o:Hid _:=m;clear m;have U:=Qqq y;have T:=Qqq F;go_wp2_with fail;refine Qxq (by kernel_rfl) (by kernel_rfl) ?_
 repeat(go_big_quiet_step((go_at_call 42;exact Xxz (Ad (D k) (E k) _ (u.below (Qxx _ _ _)) (t.below (Qxx _ _ _)) o.out.1 o.out.2))))
 refine Qqz ?_;intro _ q;obtain⟨⟨Q,H⟩,g⟩:=q;subst g;go_wp2_with fail;go_roundw
 case rel=>exact⟨k+1,by omega,by go_num,b.trans ((Qxx _ _ _).mono b.size)⟩
 case measure=>simp[intOf];omega
theorem Blk.ne{d:Nat}{b:TypeId}{k:Nat}(h:Blk w g e n f)(j:Blk w d b k f')(i:e≠b):g≠d:=by
 rintro rfl;obtain⟨c,hc,_⟩:=h;obtain⟨l,a,_⟩:=j;rw[hc] at a;cases a;exact i rfl
theorem Wp(s:Sh)(w:World)(hs:s.At w)(hn:s.n<=6)(a5:1<=s.n)(hr:∀i,i<s.n->1<=(s.r i).n/\(s.r i).n<=3):
  Calls prog 141 #[s.val] w λe w'=>∃(g c:Nat) (G C:Nat->Nat),e = .returned (.slice (some ⟨g,0,none⟩) s.n c)/\w.heap.size<=g/\s.n<=c/\c<=maxLen /\
   Blk w' g 23 s.n (λi => .slice (some ⟨G i,0,none⟩) (s.r i).n (C i)) /\
   (∀i,i<s.n->w.heap.size<=G i/\(s.r i).n<=C i/\C i<=maxLen/\Blk w' (G i) 3 (s.r i).n (λj => .int .i64 ((s.r i).z j))) /\
   (∀i j,i<j->j<s.n->G i<G j)/\Below w.heap.size w w':=by
 obtain⟨bh,U,rows⟩:=hs;obtain⟨s0,Y,sc,d⟩:=s;dsimp only at bh U rows hn hr a5;unfold maxLen at U;simp only[Sh.val];obtain⟨i0,hi,bc,a8,a7⟩:=info_parts Pw;obtain⟨i1,a,bg,be,a4⟩:=info_parts Ep;go_enter func141,ntmps141;go_wp2_with fail
 go_loopw [3,4] (λv i wk=>∃k:Nat,k<=Y/\i = .int .i64 k/\(∃(G C:Nat->Nat),wk.ownsRow w.heap.size 23 1 v k ((List.range k).map λi=>Value.slice (some ⟨G i,0,none⟩) (d i).n (C i)) /\
   (∀i,i<k->w.heap.size<=G i/\(d i).n<=C i/\C i<=maxLen/\Blk wk (G i) 3 (d i).n (λj => .int .i64 ((d i).z j))) /\
   (∀i j,i<j->j<k->G i<G j))/\Below w.heap.size w wk) (λ_ i _=>Y-(intOf i).toNat)
 case atStart=>exact⟨0,Qxz _,rfl,⟨λ_=>0,λ_=>0,World.ownsRow_nil _ _ _ _,λi hi=>absurd hi (Qzq _),λi j _ a=>absurd a (Qzq _)⟩,Below.refl _ _⟩
 obtain⟨k,hk,rfl,P,H⟩:=hrel;by_cases aj:k<Y;rotate_left
 .go_wp2_with fail;go_ret;have aw:k=Y:=by omega
  subst aw;obtain⟨G,C,V,A,J⟩:=P;have hv:∃g c,u3 = .slice (some ⟨g,0,none⟩) k c:=by
   rcases V.2 with⟨_,h0⟩|⟨g2,W,aq,rfl,_⟩
   .omega
   exact⟨g2,W,rfl⟩
  obtain⟨g',a0,rfl⟩:=hv;obtain⟨g,c,ae,h1,h2,h3,K⟩:=Blk.ofOwns V (by simp);rw[Nat.mul_one] at K;simp only[Value.slice.injEq,Qkx,Qkz,and_true,true_and] at ae;obtain⟨rfl,rfl⟩:=ae;exact⟨g',a0,G,C,rfl,h3,h1,h2,K.congr (λj a=>by simp[a]),A,J,H⟩
 obtain⟨b,o,rfl,hb,z0,a2⟩:=(rows.below H) k aj;have bv:=hr k aj;obtain⟨bt,br,ints⟩:=a2;obtain⟨b1,o1,ha,bu,y0⟩:=ints 0 (by omega);rw[ha] at z0 ints;clear y0 ha;have HG:Hid _:=P;clear P;have m1:(0:Int)<=(k:Int):=by omega
 go_wp2_with(at_builtin;refine wpList_append_own _ rfl (.tmp 12) (.tmp 16) 23 rfl wr.heap.size 3 i1 (.int .i64 0) 1 8 underlying23 a bg be a4 rfl (by decide) _ _ _ rfl (World.ownsRow_made wr #[] 0 nlr (Qxz _) rfl) ⟨b1,o1,none⟩ (d k).n (d k).c ((List.range (d k).n).map λj=>Value.int .i64 ((d k).z j)) rfl ?qc1 ?qc2 ?qc3 ?qc4 ?qc5 ?qc6 ?_)
 case qc1=>simp
 case qc2 =>
  intro j u a;have ak:j<(d k).n:=by
   have:=(List.getElem?_eq_some_iff.1 a).1
   simpa using this
  obtain⟨b',o',he,a1,aa⟩:=ints j ak;simp only[Qkx,Qkz,and_true] at he;obtain⟨rfl,rfl⟩:=he;rw[Go.WideShapes.add_plain];rw[((Below.refl wr.heap.size wr).alloc nlr _).cell (p:=⟨b1,o1+j,none⟩) a1,aa];simp[ak] at a;rw[a]
 case qc3=>intro u hu;obtain⟨x,_,rfl⟩:=List.mem_map.1 hu;rfl
 case qc4=>unfold maxLen;omega
 case qc5=>omega
 case qc6=>simp
 intro v' L T E M;obtain⟨g,c',rfl,h1,h2,h3,K⟩:=Blk.ofOwns T M;rw[Nat.mul_one] at K;have l:Below wr.heap.size wr L:=((Below.refl _ wr).alloc nlr _).grown E (by simp) (by intro k hk;simp[Value.ownBlock] at hk;omega);have h5:Blk L g 3 (d k).n (λj => .int .i64 ((d k).z j)):=K.congr (λj a=>by simp[a]);clear T E M ints z0 K;obtain⟨G,C,V,A,J⟩:=HG.out;have D:L.ownsRow w.heap.size 23 1 u3 k ((List.range k).map λi=>Value.slice (some ⟨G i,0,none⟩) (d i).n (C i)):=V.kept (row:=none) ⟨l.os,l.tape,l.output,l.size,λj a _=>l.block j a⟩ (by cases h:u3.ownBlock<;>simp);have HR:Hid _:=And.intro A J;clear V A J HG;go_wp2_with(at_builtin;refine wpList_append_own _ rfl (.tmp 11) (.tmp 18) 26 rfl w.heap.size 23 i0 (.slice none 0 0) 1 24 underlying26 hi bc a8 a7 rfl (by decide) _ _ _ rfl (D.alloc _) ⟨L.heap.size,0,none⟩ 1 1 [.slice (some ⟨g,0,none⟩) (d k).n c'] rfl rfl ?c1 ?c2 ?c3 ?c4 ?c5 ?_)
 case c1 =>
  intro j u a
  match j,a with
  | 0,a=>simp at a;subst a;simp[Addr.add]
 case c2=>intro u hu;simp at hu;subst hu;rfl
 case c3=>unfold maxLen;omega
 case c4=>omega
 case c5=>have:=H.size;have:=l.size;simp;omega
 intro v2 w2 m y X;have B:=H.trans (l.mono H.size);have S:=D.lt;have bd:Below w.heap.size w w2:=(B.alloc (by have:=B.size;omega) _).grown y (by have:=B.size;simp;omega) (λq Q=>(S q Q).1);have t:∀q f n',Blk L q 3 n' f->Blk w2 q 3 n' f:=λq f n' hb=>by
  refine(hb.alloc _).grown y ?_;intro Q;rcases D.2 with⟨rfl,_⟩|⟨g2,W,aq,rfl,_,ai,bj⟩
  .simp[Value.ownBlock] at Q
  simp only[Value.ownBlock,Qkx] at Q;subst Q;obtain⟨c3,ba,_⟩:=hb;rw[ba] at ai;cases ai
 have KN:=t _ _ _ h5;have HK:Hid _:=And.intro m (And.intro KN t);clear m y X KN t D h5 S;go_wp2_with fail;go_roundw
 case measure=>simp[intOf];omega
 obtain⟨m,KN,t⟩:=HK.out;obtain⟨A,J⟩:=HR.out;refine⟨k+1,by omega,by go_num,⟨λi=>if i=k then g else G i,λi=>if i=k then c' else C i,?_,?_,?_⟩,bd⟩
 .have e:(List.range (k+1)).map (λi=>Value.slice (some ⟨if i=k then g else G i,0,none⟩) (d i).n (if i=k then c' else C i))=((List.range k).map λi=>Value.slice (some ⟨G i,0,none⟩) (d i).n (C i))++[.slice (some ⟨g,0,none⟩) (d k).n c']:=by
   rw[List.range_succ,List.map_append]
   congr 1
   .exact List.map_congr_left λi hi=>by have:=List.mem_range.1 hi;simp[show ¬i=k by omega]
   simp
  rw[e];exact m
 .intro i hi;by_cases af:i=k
  .subst af;simp only[if_true];exact⟨by have:=H.size;omega,h1,h2,KN⟩
  simp only[af,if_false];have F:i<k:=by omega
  exact⟨(A i F).1,(A i F).2.1,(A i F).2.2.1,t _ _ _ ((A i F).2.2.2.below l)⟩
 intro i j ah a;by_cases ag:j=k
 .subst ag;have:=(A i ah).2.2.2.lt;simp[show ¬i=j by omega];omega
 simp[ag,show ¬i=k by omega,J i j ah (by omega)]
def fs(z:Nat->Hd)(i j:Nat):Hd:=if j<i then z j else z (j+1)
def jg(n:Nat)(z:Nat->Hd)(o l b:Int):Nat:=((List.range n).find? (λi=>bj (z i) o l b)).getD 0
def Bh(n:Nat)(z:Nat->Hd)(o l b:Int):Int:=if h9 n z=0 then(if keptV n z o l b=0 then 4 else 0) else h9 n z
def Cb(n:Nat)(z:Nat->Hd)(o l b:Int):Int:=if h9 n z=0 then keptV n z o l b else 0
def V5(n:Nat)(z:Nat->Hd)(o l b:Int)(s':Hs):Prop :=
 s'.n=(if Bh n z o l b=0 then n-1 else 0)/\∀j,j<s'.n->s'.z j=fs z (jg n z o l b) j
theorem Ga{k:Nat}{o l b:Int}(d:k<n)(h:∀j,j<k->bj (z j) o l b=false)(c:bj (z k) o l b=true):jg n z o l b=k:=by
 unfold jg;have e:List.range n=List.range k++(k :: (List.range (n-k-1)).map (λi=>k+1+i)):=by
  have:=@List.range_add k (n-k);rw[show k+(n-k)=n by omega] at this;rw[this,show n-k=(n-k-1)+1 by omega,List.range_succ_eq_map];simp[Function.comp_def];intro i hi;omega
 rw[e,List.find?_append];have a:(List.range k).find? (λi=>bj (z i) o l b)=none:=by
  rw[List.find?_eq_none];intro x hx;simp[h x (List.mem_range.1 hx)]
 rw[a,List.find?_cons];simp[c]
theorem Dg{x:Hd}{o l b:Int}(t:Hd)(a:t.o=o/\t.l=l/\t.b=b):bj x o l b=true↔ma x t=0:=by
 rw[Ro];simp[bj,a,and_assoc]
theorem Ef(h:h9 n z=0):aw n (da z)=false:=by
 cases a:aw n (da z)
 .rfl
 simp[h9,a] at h
theorem Zz{o l b:Int}{t:Hd}(f:aw n (da z)=false)(e:t.o=o/\t.l=l/\t.b=b)(g:Q0 n z t i):
  ((decide (i<n)&&decide (ma (z i) t=0))=true->i<n/\keptV n z o l b=(z i).n/\jg n z o l b=i/\1<=(z i).n/\(z i).n<=200) /\
  ((decide (i<n)&&decide (ma (z i) t=0))=false->keptV n z o l b=0/\∀j,j<n->bj (z j) o l b=false):=by
 have lo:∀j,j<i->bj (z j) o l b=false:=λj d=>by
  cases a:bj (z j) o l b
  .rfl
  have:=(Dg t e).1 a;have:=g.lo j d;omega
 constructor
 .intro h;simp only[Xxx,decide_eq_true_eq] at h;have a:=(Dg (x:=z i) t e).2 h.2;have p:=(cy (bw f i h.1)).2.2.2;exact⟨h.1,mm h.1 lo a,Ga h.1 lo a,p⟩
 intro h;have no:∀j,j<n->bj (z j) o l b=false:=λj d=>by
  rcases Nat.lt_trichotomy j i with c|c|c
  .exact lo j c
  .subst c;cases a:bj (z j) o l b
   .rfl
   have:=(Dg t e).1 a;simp[d,this] at h
  cases a:bj (z j) o l b
  .rfl
  have k:=(Dg t e).1 a;have m:=Ow f i j c d;have r:=g.hi i nlr (by omega);rw[Ro] at k;rw[Nv] at m;have q:ma (z i) t<0:=by rw[Nv];omega
  omega
 exact⟨kf no,no⟩
theorem tu(z:Nat->Hd)(p:Nat):∀q,ax (p+q) z=ax p z++ax q (λj=>z (p+j))
 | 0=>by simp[ax]
 | q+1=>by
  rw[<-Nat.add_assoc,ud,tu z p q,ud,List.append_assoc]
theorem ua(n:Nat)(z:Nat->Hd)(i:Nat)(hi:i<n):ax (n-1) (fs z i)=ax i z++ax (n-(i+1)) (λj=>z (i+1+j)):=by
 rw[show n-1=i+(n-(i+1)) by omega,tu];rw[mw (n:=i) (z:=fs z i) (z':=z) λj a=>by simp[fs,a]];rw[mw (n:=n-(i+1)) (z:=λj=>fs z i (i+j)) (z':=λj=>z (i+1+j)) λj a=>by show fs z i (i+j)=_;unfold fs;rw[if_neg (by omega),show i+j+1=i+1+j by omega]]
theorem jc.cut{a:Addr}{c:Nat}(h:jc w (some a) n z)(k:Nat)(f:k<=n)(m:n<=c):jc w (some (if c=k then a else a.add (k*4))) (n-k) (λj=>z (k+j)):=by
 intro i hi;obtain⟨b,o,d,e,q,l,p,g⟩:=h (k+i) (by omega);simp only[Qkx] at d;subst d;refine⟨b,o+k*4,?_,e,?_,?_,?_,?_⟩
 .rw[if_neg (by omega),Go.WideShapes.add_plain]
 all_goals(rw[show o+k*4+i*4=o+(k+i)*4 by omega];assumption)
theorem Sk(s:Hs)(o l b:Int)(w:World)(hs:s.At w):
  Calls prog 62 #[s.val,.int .i64 o,.int .i64 l,.int .i64 b] w λe F=>∃H:Hs,e = .returned (.tuple #[H.val,.int .i64 (Cb s.n s.z o l b),.int .i64 (Bh s.n s.z o l b)])/\cz w.heap.size 103 F H/\V5 s.n s.z o l b H/\Below w.heap.size w F:=by
 have HS:=hs;obtain⟨a,n,c,z⟩:=s;obtain⟨hn,hc,hz⟩:=hs;dsimp only at hn hc hz ⊢;have al:=hc;unfold maxLen at hc;simp only[Hs.val];have J:∀F,cz w.heap.size 103 F ⟨none,0,0,z⟩:=λF=>cz.nil _ _ _ _;have NA:=hid J;clear J;go_enter func62,ntmps62;go_wp2_with fail;refine(tw ⟨a,n,c,z⟩ w HS).mono ?_;rintro e w1 ⟨rfl,K⟩;dsimp only;by_cases L:h9 n z=0;rotate_left
 .have m:Hid (Cb n z o l b=0/\Bh n z o l b=h9 n z):=by show _/\_;simp[Cb,Bh,L]
  go_wp2_with fail
  go_ret3
  exact⟨⟨none,0,0,z⟩,by rw[m.out.1,m.out.2];rfl,NA.out _,⟨by rw[m.out.2,if_neg L],λj q=>absurd q (Qzq _)⟩,K⟩
 have hr:=Ef L;have az:=wh hr;go_wp2_with fail;refine(L9 ⟨a,n,c,z⟩ ⟨o,l,b,0⟩ w1 (HS.below K) hr).mono ?_;rintro e r ⟨i,rfl,Y,ar⟩;dsimp only at Y ⊢;have y:=K.trans (ar.mono K.size);obtain⟨fy,fn⟩:=Zz (o:=o) (l:=l) (b:=b) hr ⟨rfl,rfl,rfl⟩ Y;have a0:=Y.le;have X:=HS.below y;clear Y hz;cases hf:(decide (i<n)&&decide (ma (z i) ⟨o,l,b,0⟩=0))
 .obtain⟨U,_⟩:=fn hf;have m:Hid (Cb n z o l b=0/\Bh n z o l b=4):=by show _/\_;simp[Cb,Bh,L,U]
  clear fy fn U;go_wp2_with fail
  go_ret3
  exact⟨⟨none,0,0,z⟩,by rw[m.out.1,m.out.2];rfl,NA.out _,⟨by rw[m.out.2];rfl,λj q=>absurd q (Qzq _)⟩,y⟩
 obtain⟨T,U,kI,k1,k2⟩:=fy hf;have m:Hid (Cb n z o l b=(z i).n/\Bh n z o l b=0/\jg n z o l b=i):=by
  show _/\_/\_;refine⟨by simp[Cb,L,U],?_,kI⟩;unfold Bh;rw[if_pos L,if_neg (by omega)]
 obtain⟨f,g,ha,hb,z0,z1,z2,z3⟩:=X.hds i T;dsimp only at ha z0 z1 z2 z3;subst ha;have r3:=Qqq z3;have m1:(0:Int)<=(i:Int):=by omega
 have m2:(i:Int)<(n:Int):=by omega
 have m3:(i:Int)+1<=(n:Int):=by omega
 have m4:(n:Int)<=(c:Int):=by omega
 clear fy fn U kI z0 z1 z2;go_wp2_with fail;refine o9 (λF=>∃p:Regrown,F=grow (redrawn r p.d) p.os)
  ([0,1,2,3,4,5,6,9,10,11,12,13].map (λk=>(true,k))++[(false,7),(false,8),(true,14),(true,15),(false,16)]) (by kernel_rfl) (by kernel_rfl) (by kernel_rfl) (by kernel_rfl) (Qqx (brf.drew)) ?_
 refine am 0 rfl rfl ?_
 go_big_quiet_step(fail)
 refine Qqz ?_;refine am 1 rfl rfl ?_
 go_big_quiet_step(fail)
 refine Qqz ?_;refine am 2 rfl rfl ?_
 go_big_quiet_step(fail)
 refine Qqz ?_;refine am 3 rfl rfl ?_
 go_big_quiet_step(fail)
 refine Qqz ?_;refine am 4 rfl rfl ?_
 go_big_quiet_step(fail)
 refine Qqz ?_;refine am 5 rfl rfl ?_
 go_big_quiet_step(fail)
 refine Qqz ?_;refine am 6 rfl rfl ?_
 go_big_quiet_step(fail)
 refine Qqz ?_;refine am 9 rfl rfl ?_
 go_big_quiet_step(fail)
 refine Qqz ?_;refine am 10 rfl rfl ?_
 go_big_quiet_step(fail)
 refine Qqz ?_;refine am 11 rfl rfl ?_
 go_big_quiet_step(fail)
 refine Qqz ?_;refine am 12 rfl rfl ?_
 go_big_quiet_step(fail)
 refine Qqz ?_;refine am 13 rfl rfl ?_
 go_big_quiet_step(fail)
 refine Qqz ?_;refine dc 7 (by decide) ?_;simp only[Qyq,Xqq,Qyx,Qyz];go_wp2_with fail
 .have aa:c=i+1:=by assumption
  have M:Hs.At r ⟨some ⟨f,g,none⟩,i,i+1,z⟩:=⟨by simp,by show i+1<=maxLen;unfold maxLen;omega,λj q=>X.hds j (by have:j<i:=q;show j<n;omega),λh=>by cases h⟩;have Q:Hs.At r ⟨some ⟨f,g,none⟩,n-(i+1),0,λj=>z (i+1+j)⟩:=⟨by simp;omega,Qxz _,λj q=>by have:j<n-(i+1):=q;omega,λh=>by cases h⟩;have D:=qa2 M Q;clear M Q;have x:Below r.heap.size r (r.alloc (.cells #[.slice (some ⟨f,g,none⟩) i (i+1),.slice (some ⟨f,g,none⟩) (n-(i+1)) (0)] 28)).drew:=(brf.alloc nlr _).drew;refine⟨Qqx x,?_⟩;refine dc 8 (by decide) ?_;simp only[Qyq,Xqq,Qyx,Qyz];go_wp2_with fail;refine(Ff 2 r.heap.size 2 (λk=>if k=0 then ⟨some ⟨f,g,none⟩,i,i+1,z⟩ else ⟨some ⟨f,g,none⟩,n-(i+1),0,λj=>z (i+1+j)⟩) _ (by omega) nlr (by unfold maxLen;omega) ?_ ?_ ?_).mono ?_
  .refine Blk.below (Blk.congr (Blk.mk' rfl rfl) (λj q => ?_)) (brf.drew);have S:j=0\/j=1:=by have:j<2:=q;omega
   rcases S with rfl|rfl<;>rfl
  .intro k hk;have B:k=0\/k=1:=by omega
   rcases B with rfl|rfl
   .exact D.out.1.below x
   exact D.out.2.below x
  .intro k hk;have B:k=0\/k=1:=by omega
   rcases B with rfl|rfl
   .simp;omega
   simp;omega
  rintro e w3 ⟨v,rfl,t,V⟩;have u:w3.ownsRow (r.alloc (.cells #[.slice (some ⟨f,g,none⟩) i (i+1),.slice (some ⟨f,g,none⟩) (n-(i+1)) (0)] 28)).drew.heap.size 103 4 v (n-1) (ax (n-1) (fs z i)):=by
   have e1:tv (λk=>if k=0 then(⟨some ⟨f,g,none⟩,i,i+1,z⟩:Hs) else ⟨some ⟨f,g,none⟩,n-(i+1),0,λj=>z (i+1+j)⟩) 2=n-1:=by simp[tv];omega
   have e2:Bw (λk=>if k=0 then(⟨some ⟨f,g,none⟩,i,i+1,z⟩:Hs) else ⟨some ⟨f,g,none⟩,n-(i+1),0,λj=>z (i+1+j)⟩) 2=ax (n-1) (fs z i):=by rw[ua n z i T];simp[Bw]
   rw[e1,e2] at t;exact t
  obtain⟨H,rfl,E,P,W⟩:=cz.ofRow u (Qzx y.size x.size);have A:=x.trans (V.mono x.size);have G:=qa3 E P W;clear t u E P W;simp only[Hs.val];go_wp2_with fail;refine⟨Qqx A,?_⟩;refine am 14 rfl rfl ?_
  go_big_quiet_step(fail)
  refine Qqz ?_;refine am 15 rfl rfl ?_
  go_big_quiet_step(fail)
  refine Qqz ?_;refine dc 16 (by decide) ?_;simp only[Qyq,Xqq,Qyx,Qyz];go_wp2_with fail;refine⟨Qqx A,?_⟩;refine NoPanic.normal ?_;go_wp2_with fail
  go_ret3
  refine⟨H,by rw[m.out.1,m.out.2.1];rfl,G.out.1,⟨by rw[m.out.2.1];exact G.out.2.1,λj q=>by rw[m.out.2.2,G.out.2.2]⟩,y.trans (A.mono y.size)⟩
 have aa:¬c=i+1:=by assumption
 have M:Hs.At r ⟨some ⟨f,g,none⟩,i,c,z⟩:=⟨by show i<=c;omega,al,λj q=>X.hds j (by have:j<i:=q;show j<n;omega),λh=>by cases h⟩;have Q:Hs.At r ⟨some ⟨f,g+(i+1)*4,none⟩,n-(i+1),c-(i+1),λj=>z (i+1+j)⟩:=⟨by show n-(i+1)<=c-(i+1);omega,by show c-(i+1)<=maxLen;omega,by
  have:=X.hds.cut (c:=c) (i+1) (by show i+1<=n;omega) hn;rw[if_neg aa,Go.WideShapes.add_plain] at this;exact this,λh=>by cases h⟩
 have D:=qa2 M Q;clear M Q;have x:Below r.heap.size r (r.alloc (.cells #[.slice (some ⟨f,g,none⟩) i (c),.slice (some ⟨f,g+(i+1)*4,none⟩) (n-(i+1)) (c-(i+1))] 28)).drew:=(brf.alloc nlr _).drew;refine⟨Qqx x,?_⟩;refine dc 8 (by decide) ?_;simp only[Qyq,Xqq,Qyx,Qyz];go_wp2_with fail;refine(Ff 2 r.heap.size 2 (λk=>if k=0 then ⟨some ⟨f,g,none⟩,i,c,z⟩ else ⟨some ⟨f,g+(i+1)*4,none⟩,n-(i+1),c-(i+1),λj=>z (i+1+j)⟩) _ (by omega) nlr (by unfold maxLen;omega) ?_ ?_ ?_).mono ?_
 .refine Blk.below (Blk.congr (Blk.mk' rfl rfl) (λj q => ?_)) (brf.drew);have S:j=0\/j=1:=by have:j<2:=q;omega
  rcases S with rfl|rfl<;>rfl
 .intro k hk;have B:k=0\/k=1:=by omega
  rcases B with rfl|rfl
  .exact D.out.1.below x
  exact D.out.2.below x
 .intro k hk;have B:k=0\/k=1:=by omega
  rcases B with rfl|rfl
  .simp;omega
  simp;omega
 rintro e w3 ⟨v,rfl,t,V⟩;have u:w3.ownsRow (r.alloc (.cells #[.slice (some ⟨f,g,none⟩) i (c),.slice (some ⟨f,g+(i+1)*4,none⟩) (n-(i+1)) (c-(i+1))] 28)).drew.heap.size 103 4 v (n-1) (ax (n-1) (fs z i)):=by
  have e1:tv (λk=>if k=0 then(⟨some ⟨f,g,none⟩,i,c,z⟩:Hs) else ⟨some ⟨f,g+(i+1)*4,none⟩,n-(i+1),c-(i+1),λj=>z (i+1+j)⟩) 2=n-1:=by simp[tv];omega
  have e2:Bw (λk=>if k=0 then(⟨some ⟨f,g,none⟩,i,c,z⟩:Hs) else ⟨some ⟨f,g+(i+1)*4,none⟩,n-(i+1),c-(i+1),λj=>z (i+1+j)⟩) 2=ax (n-1) (fs z i):=by rw[ua n z i T];simp[Bw]
  rw[e1,e2] at t;exact t
 obtain⟨H,rfl,E,P,W⟩:=cz.ofRow u (Qzx y.size x.size);have A:=x.trans (V.mono x.size);have G:=qa3 E P W;clear t u E P W;simp only[Hs.val];go_wp2_with fail;refine⟨Qqx A,?_⟩;refine am 14 rfl rfl ?_
 go_big_quiet_step(fail)
 refine Qqz ?_;refine am 15 rfl rfl ?_
 go_big_quiet_step(fail)
 refine Qqz ?_;refine dc 16 (by decide) ?_;simp only[Qyq,Xqq,Qyx,Qyz];go_wp2_with fail;refine⟨Qqx A,?_⟩;refine NoPanic.normal ?_;go_wp2_with fail
 go_ret3
 refine⟨H,by rw[m.out.1,m.out.2.1];rfl,G.out.1,⟨by rw[m.out.2.1];exact G.out.2.1,λj q=>by rw[m.out.2.2,G.out.2.2]⟩,y.trans (A.mono y.size)⟩
def jd(n:Nat)(z:Nat->Hd)(h:Hd):Nat:=((List.range n).find? (λi=>decide (0<=ma (z i) h))).getD n
def addE(n:Nat)(z:Nat->Hd)(h:Hd):Int:=if h9 n z=0 then(if gy h then(if 200<keptV n z h.o h.l h.b+h.n then 3 else 0) else 1) else h9 n z
def lx(z:Nat->Hd)(i:Nat)(h:Hd)(j:Nat):Hd:=if j<i then z j else if j=i then h else z (j-1)
def qt(z:Nat->Hd)(i:Nat)(h:Hd)(j:Nat):Hd:=if j=i then h else z j
def xx(n:Nat)(z:Nat->Hd)(h:Hd):Nat->Hd:=if keptV n z h.o h.l h.b=0 then lx z (jd n z h) h else qt z (jd n z h) ⟨h.o,h.l,h.b,keptV n z h.o h.l h.b+h.n⟩
def pj(n:Nat)(z:Nat->Hd)(h:Hd):Nat:=if keptV n z h.o h.l h.b=0 then n+1 else n
def Dw(n:Nat)(z:Nat->Hd)(h:Hd)(s':Hs):Prop :=
 s'.n=(if addE n z h=0 then pj n z h else 0)/\∀j,j<s'.n->s'.z j=xx n z h j
theorem Oj(a:Q0 n z h i):jd n z h=i:=by
 unfold jd;by_cases hi:i<n;rotate_left
 .have c:i=n:=by have:=a.le;omega
  subst c;have b:(List.range i).find? (λq=>decide (0<=ma (z q) h))=none:=by
   rw[List.find?_eq_none];intro x hx;have:=a.lo x (List.mem_range.1 hx);simp;omega
  rw[b]
  rfl
 have e:List.range n=List.range i++(i :: (List.range (n-i-1)).map (λq=>i+1+q)):=by
  have:=@List.range_add i (n-i);rw[show i+(n-i)=n by omega] at this;rw[this,show n-i=(n-i-1)+1 by omega,List.range_succ_eq_map];simp[Function.comp_def];intro q d;omega
 rw[e,List.find?_append];have b:(List.range i).find? (λq=>decide (0<=ma (z q) h))=none:=by
  rw[List.find?_eq_none];intro x hx;have:=a.lo x (List.mem_range.1 hx);simp;omega
 rw[b,List.find?_cons];have:=a.hi i nlr hi;simp[this]
theorem Hh(n:Nat)(z:Nat->Hd)(i:Nat)(h:Hd)(hi:i<=n):ax (n+1) (lx z i h)=ax i z++ax 1 (λ_=>h)++ax (n-i) (λj=>z (i+j)):=by
 rw[show n+1=(i+1)+(n-i) by omega,tu,tu (lx z i h) i 1]
 congr 1
 .congr 1
  .exact mw λj a=>by unfold lx;rw[if_pos a]
  exact mw λj a=>by
   have:j=0:=by omega
   subst this;simp[lx]
 exact mw λj a=>by
  show lx z i h (i+1+j)=_;unfold lx;rw[if_neg (by omega),if_neg (by omega),show i+1+j-1=i+j by omega]
theorem Nz(n:Nat)(z:Nat->Hd)(i:Nat)(h:Hd)(hi:i<n):ax n (qt z i h)=ax i z++ax 1 (λ_=>h)++ax (n-(i+1)) (λj=>z (i+1+j)):=by
 rw[show ax n (qt z i h)=ax ((i+1)+(n-(i+1))) (qt z i h) by rw[show(i+1)+(n-(i+1))=n by omega],tu,tu (qt z i h) i 1]
 congr 1
 .congr 1
  .exact mw λj a=>by unfold qt;rw[if_neg (by omega)]
  exact mw λj a=>by
   have:j=0:=by omega
   subst this;simp[qt]
 exact mw λj a=>by
  show qt z i h (i+1+j)=_;unfold qt;rw[if_neg (by omega)]
theorem Hs.one(a:Blk w g e 4 (λj=>(#[.int .i64 h.o,.int .i64 h.l,.int .i64 h.b,.int .i64 h.n]:Array Value).getD j default)):Hs.At w ⟨some ⟨g,0,none⟩,1,1,λ_=>h⟩:=by
 refine⟨Nat.le_refl _,by show 1<=maxLen;unfold maxLen;omega,λi hi => ?_,λh=>by cases h⟩;have c:i=0:=by have:i<1:=hi;omega
 subst c;exact⟨g,0,rfl,a.lt,a.k 0,a.k 1,a.k 2,a.k 3⟩
theorem Eu(s0 d:Hs)(h:Hd)(w:World)(m:Nat)(f:Nat->Hd)(B:s0.At w)(D:d.At w)(n0:s0.n<=100)(n2:d.n<=100)(G:s0.n+1+d.n=m)(A:ax s0.n s0.z++(df h++ax d.n d.z)=ax m f):
  Calls prog 111 #[.slice (some ⟨w.heap.size+1,0,none⟩) 3 3] ((w.alloc (.cells #[.int .i64 h.o,.int .i64 h.l,.int .i64 h.b,.int .i64 h.n] 103)).alloc (.cells #[.slice s0.a s0.n s0.c,.slice (some ⟨w.heap.size,0,none⟩) 1 1,.slice d.a d.n d.c] 28)).drew λe u =>
   ∃g:Hs,e = .returned g.val/\cz w.heap.size 103 u g/\g.n=m/\g.z=f/\Below w.heap.size w u:=by
 have i:Below w.heap.size w ((w.alloc (.cells #[.int .i64 h.o,.int .i64 h.l,.int .i64 h.b,.int .i64 h.n] 103)).alloc (.cells #[.slice s0.a s0.n s0.c,.slice (some ⟨w.heap.size,0,none⟩) 1 1,.slice d.a d.n d.c] 28)).drew:=((brf.alloc nlr _).alloc (by simp) _).drew;refine(Ff 3 (w.heap.size+1) 3 (λk=>if k=0 then s0 else if k=1 then ⟨some ⟨w.heap.size,0,none⟩,1,1,λ_=>h⟩ else d) _ (by omega) nlr (by unfold maxLen;omega) ?_ ?_ ?_).mono ?_
 .refine Blk.below (Blk.congr (Blk.mk' (by simp) rfl) (λj y => ?_)) (brf.drew);have r:j=0\/j=1\/j=2:=by have:j<3:=y;omega
  rcases r with rfl|rfl|rfl<;>rfl
 .intro k x;have p:k=0\/k=1\/k=2:=by omega
  rcases p with rfl|rfl|rfl
  .exact B.below i
  .exact Hs.one (Blk.below (Blk.alloc (Blk.mk' rfl rfl) _) (brf.drew))
  exact D.below i
 .intro k x;have p:k=0\/k=1\/k=2:=by omega
  rcases p with rfl|rfl|rfl
  .exact n0
  .show 1<=100;omega
  exact n2
 rintro e H ⟨v,rfl,q,t⟩;have c1:tv (λk=>if k=0 then s0 else if k=1 then(⟨some ⟨w.heap.size,0,none⟩,1,1,λ_=>h⟩:Hs) else d) 3=m:=by simp[tv];omega
 have c2:Bw (λk=>if k=0 then s0 else if k=1 then(⟨some ⟨w.heap.size,0,none⟩,1,1,λ_=>h⟩:Hs) else d) 3=ax m f:=by rw[<-A];simp[Bw,ax]
 rw[c1,c2] at q;obtain⟨g,rfl,s,F,E⟩:=cz.ofRow q i.size;exact⟨g,rfl,s,F,E,i.trans (t.mono i.size)⟩
theorem Tu(s:Hs)(h:Hd)(w:World)(hs:s.At w):
  Calls prog 107 #[s.val,h.val] w λe y=>∃G:Hs,e = .returned (.tuple #[G.val,.int .i64 (addE s.n s.z h)])/\cz w.heap.size 103 y G/\Dw s.n s.z h G/\Below w.heap.size w y:=by
 have HS:=hs;obtain⟨a,n,c,z⟩:=s;obtain⟨hn,hc,hz,ag⟩:=hs;dsimp only at hn hc hz ag ⊢;have au:=hc;unfold maxLen at hc;simp only[Hs.val,Hd.val];have NA:Hid (∀y,cz w.heap.size 103 y ⟨none,0,0,z⟩):=λy=>cz.nil _ _ _ _;have ay:Below w.heap.size w (w.alloc (.cells #[.int .i64 h.o,.int .i64 h.l,.int .i64 h.b,.int .i64 h.n] 103)):=brf.alloc nlr _;have x:Below (w.heap.size+1) (w.alloc (.cells #[.int .i64 h.o,.int .i64 h.l,.int .i64 h.b,.int .i64 h.n] 103)) (w.alloc (.cells #[.int .i64 h.o,.int .i64 h.l,.int .i64 h.b,.int .i64 h.n] 103)):=Below.refl _ _;have hT:Hid (∀L,Below (w.heap.size+1) (w.alloc (.cells #[.int .i64 h.o,.int .i64 h.l,.int .i64 h.b,.int .i64 h.n] 103)) L->(L.cell? ⟨w.heap.size,0,none⟩=some (.int .i64 h.o)/\L.cell? ⟨w.heap.size,1,none⟩=some (.int .i64 h.l)/\L.cell? ⟨w.heap.size,2,none⟩=some (.int .i64 h.b)/\L.cell? ⟨w.heap.size,3,none⟩=some (.int .i64 h.n))/\L.frozen? ⟨w.heap.size,3,none⟩=false/\w.heap.size<L.heap.size):=λL hb =>
  ⟨⟨(hb.cell (p:=⟨w.heap.size,0,none⟩) (by simp)).trans (by simp),(hb.cell (p:=⟨w.heap.size,1,none⟩) (by simp)).trans (by simp),(hb.cell (p:=⟨w.heap.size,2,none⟩) (by simp)).trans (by simp),(hb.cell (p:=⟨w.heap.size,3,none⟩) (by simp)).trans (by simp)⟩,(hb.frozen (p:=⟨w.heap.size,3,none⟩) (by simp)).trans (by simp),by have:=hb.size;simp at this;omega⟩
 go_enter func107,ntmps107;go_wp2_with fail;refine(tw ⟨a,n,c,z⟩ _ (HS.below ay)).mono ?_;rintro e L ⟨rfl,M⟩;dsimp only;have f:=ay.trans (M.mono (by simp));have x:=x.trans (M.mono (by simp));obtain⟨⟨X,W,t2,V⟩,tf,T⟩:=hT.out L x;clear M hz;by_cases Y:h9 n z=0;rotate_left
 .have m:Hid (addE n z h=h9 n z):=by show addE n z h=_;simp[addE,Y]
  go_wp2_with fail
  go_ret2
  exact⟨⟨none,0,0,z⟩,by rw[m.out];rfl,NA.out _,⟨by rw[m.out,if_neg Y],λj v=>absurd v (Qzq _)⟩,f⟩
 have hr:=Ef Y;have br:=wh hr;go_wp2_with fail;refine(rj h L).mono ?_;rintro e w2 ⟨rfl,M⟩;have f:=f.trans (M.mono f.size);have x:=x.trans (M.mono (by omega));clear X W t2 V tf T M;obtain⟨⟨X,W,t2,V⟩,tf,T⟩:=hT.out w2 x;cases B:gy h
 .have m:Hid (addE n z h=1):=by show addE n z h=1;simp[addE,Y,B]
  go_wp2_with fail
  go_ret2
  exact⟨⟨none,0,0,z⟩,by rw[m.out];rfl,NA.out _,⟨by rw[m.out];rfl,λj v=>absurd v (Qzq _)⟩,f⟩
 have bt:=(cy B).2.2.2;go_wp2_with fail;refine(L9 ⟨a,n,c,z⟩ h w2 (HS.below f) hr).mono ?_;rintro e g ⟨i,rfl,hp,M⟩;dsimp only at hp ⊢;have f:=f.trans (M.mono f.size);have x:=x.trans (M.mono (by omega));clear X W t2 V tf T M;obtain⟨⟨X,W,t2,V⟩,tf,T⟩:=hT.out g x;obtain⟨fy,fn⟩:=Zz (o:=h.o) (l:=h.l) (b:=h.b) hr ⟨rfl,rfl,rfl⟩ hp;have ak:Hid (jd n z h=i):=Oj hp;have bg:=hp.le;have HZ:=HS.below f;clear hp;have m1:(0:Int)<=(i:Int):=by omega
 have m2:(i:Int)<=(n:Int):=by omega
 have m4:(n:Int)<=(c:Int):=by omega
 cases hf:(decide (i<n)&&decide (ma (z i) h=0));rotate_left
 .obtain⟨ai,K,kI,k1,k2⟩:=fy hf;obtain⟨H,J,ha,hb,z0,z1,z2,z3⟩:=HZ.hds i ai;dsimp only at ha z0 z1 z2 z3;subst ha;have m3:(i:Int)<(n:Int):=by omega
  have m5:(i:Int)+1<=(n:Int):=by omega
  have KV:=hid K;clear fy fn K kI z0 z1 z2;go_wp2_with fail
  go_region
  have F:∃q,(g.setCell ⟨w.heap.size,3,none⟩ (.int .i64 (h.n+(z i).n))).drew=q/\Below w.heap.size w q/\w.heap.size<q.heap.size/\(q.cell? ⟨w.heap.size,0,none⟩=some (.int .i64 h.o)/\q.cell? ⟨w.heap.size,1,none⟩=some (.int .i64 h.l)/\q.cell? ⟨w.heap.size,2,none⟩=some (.int .i64 h.b)/\q.cell? ⟨w.heap.size,3,none⟩=some (.int .i64 (h.n+(z i).n))):=by
   have bx:Blk g w.heap.size 103 4 (λj=>(#[.int .i64 h.o,.int .i64 h.l,.int .i64 h.b,.int .i64 h.n]:Array Value).getD j default):=(Blk.mk' (w:=w) rfl rfl).same (x.block w.heap.size (by omega));have U:=Blk.below (bx.set 3 (.int .i64 (h.n+(z i).n))) (brf.drew);refine⟨_,rfl,(f.setCell (p:=⟨w.heap.size,3,none⟩) nlr _).drew,U.lt,U.k 0,U.k 1,U.k 2,U.k 3⟩
  obtain⟨q,av,aw,bj,u0,u1,u2,u3⟩:=F;rw[av];clear av X W t2 V tf z3 T;have ah:=HS.below aw;have f:=aw;cases af:decide (200<h.n+(z i).n);rotate_left
  .have an:200<h.n+(z i).n:=by simpa using af
   have m:Hid (addE n z h=3):=by
    show addE n z h=3;have K:=KV.out;unfold addE;rw[if_pos Y,if_pos B,K,if_pos (by omega)]
   go_wp2_with fail
   go_ret2
   exact⟨⟨none,0,0,z⟩,by rw[m.out];rfl,NA.out _,⟨by rw[m.out];rfl,λj v=>absurd v (Qzq _)⟩,f⟩
  have an:¬200<h.n+(z i).n:=by simpa using af
  have m:Hid (addE n z h=0/\pj n z h=n/\xx n z h=qt z i ⟨h.o,h.l,h.b,h.n+(z i).n⟩):=by
   show _/\_/\_;have K:=KV.out;have ar:¬keptV n z h.o h.l h.b=0:=by omega
   refine⟨?_,by simp[pj,ar],?_⟩
   .unfold addE;rw[if_pos Y,if_pos B,K,if_neg (by omega)]
   unfold xx;rw[if_neg ar,ak.out,K,Int.add_comm]
  have e0:=Qqq u0;have e1:=Qqq u1;have e2:=Qqq u2;have e3:=Qqq u3;by_cases ac:c=i+1
  .go_wp2_with fail;refine o9 (λy=>∃p:Regrown,y=grow (redrawn q p.d) p.os)
    ([0,1,2,3,5,6,7,8].map (λk=>(true,k))++[(false,4),(false,9),(false,10),(true,11),(false,12)]) (by kernel_rfl) (by kernel_rfl) (by kernel_rfl) (by kernel_rfl) (Qqx (brf.drew)) ?_
   refine am 0 rfl rfl ?_
   go_big_quiet_step(fail)
   refine Qqz ?_;refine am 1 rfl rfl ?_
   go_big_quiet_step(fail)
   refine Qqz ?_;refine am 2 rfl rfl ?_
   go_big_quiet_step(fail)
   refine Qqz ?_;refine am 3 rfl rfl ?_
   go_big_quiet_step(fail)
   refine Qqz ?_;refine am 5 rfl rfl ?_
   go_big_quiet_step(fail)
   refine Qqz ?_;refine am 6 rfl rfl ?_
   go_big_quiet_step(fail)
   refine Qqz ?_;refine am 7 rfl rfl ?_
   go_big_quiet_step(fail)
   refine Qqz ?_;refine am 8 rfl rfl ?_
   go_big_quiet_step(fail)
   refine Qqz ?_;refine dc 4 (by decide) ?_;simp only[Qyq,Xqq,Qyx,Qyz];go_wp2_with fail;have P:Hid (Hs.At q ⟨some ⟨H,J,none⟩,i,i+1,z⟩):=⟨by simp,by show i+1<=maxLen;unfold maxLen;omega,λj v=>ah.hds j (by have:j<i:=v;show j<n;omega),λh=>by cases h⟩;have Q:Hid (Hs.At q ⟨some ⟨H,J,none⟩,n-(i+1),0,λj=>z (i+1+j)⟩):=⟨by show n-(i+1)<=0;omega,Qxz _,λj v=>by have:j<n-(i+1):=v;omega,λh=>by cases h⟩;have D:Below q.heap.size q (q.alloc (.cells #[.int .i64 h.o,.int .i64 h.l,.int .i64 h.b,.int .i64 (h.n+(z i).n)] 103)).drew:=(brf.alloc nlr _).drew;have S:Below q.heap.size q ((q.alloc (.cells #[.int .i64 h.o,.int .i64 h.l,.int .i64 h.b,.int .i64 (h.n+(z i).n)] 103)).alloc (.cells #[.slice (some ⟨H,J,none⟩) (i) (i+1),.slice (some ⟨q.heap.size,0,none⟩) 1 1,.slice (some ⟨H,J,none⟩) (n-(i+1)) (0)] 28)).drew:=((brf.alloc nlr _).alloc (by simp) _).drew;refine⟨Qqx D,?_⟩;refine dc 9 (by decide) ?_;simp only[Qyq,Xqq,Qyx,Qyz];go_wp2_with fail;refine⟨Qqx S,?_⟩;refine dc 10 (by decide) ?_;simp only[Qyq,Xqq,Qyx,Qyz];go_wp2_with fail;refine(Eu ⟨some ⟨H,J,none⟩,i,i+1,z⟩ ⟨some ⟨H,J,none⟩,n-(i+1),0,λj=>z (i+1+j)⟩ ⟨h.o,h.l,h.b,h.n+(z i).n⟩ q (n) (qt z i ⟨h.o,h.l,h.b,h.n+(z i).n⟩) P.out Q.out (by dsimp only;omega) (by dsimp only;omega) (by first|rfl|(dsimp only;omega)) (by rw[Nz _ _ _ _ ai];simp[ax])).mono ?_;rintro e w9 ⟨G,rfl,t,A,E,r⟩;have u:=qa3 (t.mono f.size) A E;clear t A E;simp only[Hs.val];go_wp2_with fail;refine⟨Qqx r,?_⟩;refine am 11 rfl rfl ?_
   go_big_quiet_step(fail)
   refine Qqz ?_;refine dc 12 (by decide) ?_;simp only[Qyq,Xqq,Qyx,Qyz];go_wp2_with fail;refine⟨Qqx r,?_⟩;refine NoPanic.normal ?_;go_wp2_with fail
   go_ret2
   exact⟨G,by rw[m.out.1];rfl,u.out.1,⟨by rw[m.out.1,m.out.2.1];exact u.out.2.1,λj v=>by rw[m.out.2.2,u.out.2.2]⟩,f.trans (r.mono f.size)⟩
  go_wp2_with fail;refine o9 (λy=>∃p:Regrown,y=grow (redrawn q p.d) p.os)
   ([0,1,2,3,5,6,7,8].map (λk=>(true,k))++[(false,4),(false,9),(false,10),(true,11),(false,12)]) (by kernel_rfl) (by kernel_rfl) (by kernel_rfl) (by kernel_rfl) (Qqx (brf.drew)) ?_
  refine am 0 rfl rfl ?_
  go_big_quiet_step(fail)
  refine Qqz ?_;refine am 1 rfl rfl ?_
  go_big_quiet_step(fail)
  refine Qqz ?_;refine am 2 rfl rfl ?_
  go_big_quiet_step(fail)
  refine Qqz ?_;refine am 3 rfl rfl ?_
  go_big_quiet_step(fail)
  refine Qqz ?_;refine am 5 rfl rfl ?_
  go_big_quiet_step(fail)
  refine Qqz ?_;refine am 6 rfl rfl ?_
  go_big_quiet_step(fail)
  refine Qqz ?_;refine am 7 rfl rfl ?_
  go_big_quiet_step(fail)
  refine Qqz ?_;refine am 8 rfl rfl ?_
  go_big_quiet_step(fail)
  refine Qqz ?_;refine dc 4 (by decide) ?_;simp only[Qyq,Xqq,Qyx,Qyz];go_wp2_with fail;have P:Hid (Hs.At q ⟨some ⟨H,J,none⟩,i,c,z⟩):=⟨by show i<=c;omega,au,λj v=>ah.hds j (by have:j<i:=v;show j<n;omega),λh=>by cases h⟩;have Q:Hid (Hs.At q ⟨some ⟨H,J+(i+1)*4,none⟩,n-(i+1),c-(i+1),λj=>z (i+1+j)⟩):=⟨by show n-(i+1)<=c-(i+1);omega,by show c-(i+1)<=maxLen;omega,by
   have:=ah.hds.cut (c:=c) (i+1) (by show i+1<=n;omega) hn;rw[if_neg ac,Go.WideShapes.add_plain] at this;exact this,λh=>by cases h⟩
  have D:Below q.heap.size q (q.alloc (.cells #[.int .i64 h.o,.int .i64 h.l,.int .i64 h.b,.int .i64 (h.n+(z i).n)] 103)).drew:=(brf.alloc nlr _).drew;have S:Below q.heap.size q ((q.alloc (.cells #[.int .i64 h.o,.int .i64 h.l,.int .i64 h.b,.int .i64 (h.n+(z i).n)] 103)).alloc (.cells #[.slice (some ⟨H,J,none⟩) (i) (c),.slice (some ⟨q.heap.size,0,none⟩) 1 1,.slice (some ⟨H,J+(i+1)*4,none⟩) (n-(i+1)) (c-(i+1))] 28)).drew:=((brf.alloc nlr _).alloc (by simp) _).drew;refine⟨Qqx D,?_⟩;refine dc 9 (by decide) ?_;simp only[Qyq,Xqq,Qyx,Qyz];go_wp2_with fail;refine⟨Qqx S,?_⟩;refine dc 10 (by decide) ?_;simp only[Qyq,Xqq,Qyx,Qyz];go_wp2_with fail;refine(Eu ⟨some ⟨H,J,none⟩,i,c,z⟩ ⟨some ⟨H,J+(i+1)*4,none⟩,n-(i+1),c-(i+1),λj=>z (i+1+j)⟩ ⟨h.o,h.l,h.b,h.n+(z i).n⟩ q (n) (qt z i ⟨h.o,h.l,h.b,h.n+(z i).n⟩) P.out Q.out (by dsimp only;omega) (by dsimp only;omega) (by first|rfl|(dsimp only;omega)) (by rw[Nz _ _ _ _ ai];simp[ax])).mono ?_;rintro e w9 ⟨G,rfl,t,A,E,r⟩;have u:=qa3 (t.mono f.size) A E;clear t A E;simp only[Hs.val];go_wp2_with fail;refine⟨Qqx r,?_⟩;refine am 11 rfl rfl ?_
  go_big_quiet_step(fail)
  refine Qqz ?_;refine dc 12 (by decide) ?_;simp only[Qyq,Xqq,Qyx,Qyz];go_wp2_with fail;refine⟨Qqx r,?_⟩;refine NoPanic.normal ?_;go_wp2_with fail
  go_ret2
  exact⟨G,by rw[m.out.1];rfl,u.out.1,⟨by rw[m.out.1,m.out.2.1];exact u.out.2.1,λj v=>by rw[m.out.2.2,u.out.2.2]⟩,f.trans (r.mono f.size)⟩
 obtain⟨K,_⟩:=fn hf;have m:Hid (addE n z h=0/\pj n z h=n+1/\xx n z h=lx z i h):=by
  show _/\_/\_;refine⟨?_,by simp[pj,K],by simp[xx,K,ak.out]⟩;unfold addE;rw[if_pos Y,if_pos B,K,if_neg (by omega)]
 have e0:=Qqq X;have e1:=Qqq W;have e2:=Qqq t2;have e3:=Qqq V;clear fy fn K X W t2 V tf;cases a with
 | none =>
  have a3:c=0:=ag rfl;have bd:n=0:=by omega
  have be:i=0:=by omega
  subst a3 bd be;go_wp2_with fail;refine o9 (λy=>∃p:Regrown,y=grow (redrawn g p.d) p.os)
   ([0,1,2,3,5,6,7].map (λk=>(true,k))++[(false,4),(false,8),(false,9),(true,10),(false,11)]) (by kernel_rfl) (by kernel_rfl) (by kernel_rfl) (by kernel_rfl) (Qqx (brf.drew)) ?_
  refine am 0 rfl rfl ?_
  go_big_quiet_step(fail)
  refine Qqz ?_;refine am 1 rfl rfl ?_
  go_big_quiet_step(fail)
  refine Qqz ?_;refine am 2 rfl rfl ?_
  go_big_quiet_step(fail)
  refine Qqz ?_;refine am 3 rfl rfl ?_
  go_big_quiet_step(fail)
  refine Qqz ?_;refine am 5 rfl rfl ?_
  go_big_quiet_step(fail)
  refine Qqz ?_;refine am 6 rfl rfl ?_
  go_big_quiet_step(fail)
  refine Qqz ?_;refine am 7 rfl rfl ?_
  go_big_quiet_step(fail)
  refine Qqz ?_;refine dc 4 (by decide) ?_;simp only[Qyq,Xqq,Qyx,Qyz];go_wp2_with fail;have P:Hid (Hs.At g ⟨none,0,0,z⟩):=(NA.out g).at;have Q:Hid (Hs.At g ⟨none,0-0,0,λj=>z (0+j)⟩):=⟨Nat.le_refl _,Qxz _,λi hi=>absurd hi (Qzq _),λ_=>rfl⟩;have D:Below g.heap.size g (g.alloc (.cells #[.int .i64 h.o,.int .i64 h.l,.int .i64 h.b,.int .i64 h.n] 103)).drew:=(brf.alloc nlr _).drew;have S:Below g.heap.size g ((g.alloc (.cells #[.int .i64 h.o,.int .i64 h.l,.int .i64 h.b,.int .i64 h.n] 103)).alloc (.cells #[.slice (none) (0) (0),.slice (some ⟨g.heap.size,0,none⟩) 1 1,.slice (none) (0) (0)] 28)).drew:=((brf.alloc nlr _).alloc (by simp) _).drew;refine⟨Qqx D,?_⟩;refine dc 8 (by decide) ?_;simp only[Qyq,Xqq,Qyx,Qyz];go_wp2_with fail;refine⟨Qqx S,?_⟩;refine dc 9 (by decide) ?_;simp only[Qyq,Xqq,Qyx,Qyz];go_wp2_with fail;refine(Eu ⟨none,0,0,z⟩ ⟨none,0-0,0,λj=>z (0+j)⟩ h g (0+1) (lx z 0 h) P.out Q.out (by dsimp only;omega) (by dsimp only;omega) (by first|rfl|(dsimp only;omega)) (by rw[Hh _ _ _ _ (by omega)];simp[ax])).mono ?_;rintro e w9 ⟨G,rfl,t,A,E,r⟩;have u:=qa3 (t.mono f.size) A E;clear t A E;simp only[Hs.val];go_wp2_with fail;refine⟨Qqx r,?_⟩;refine am 10 rfl rfl ?_
  go_big_quiet_step(fail)
  refine Qqz ?_;refine dc 11 (by decide) ?_;simp only[Qyq,Xqq,Qyx,Qyz];go_wp2_with fail;refine⟨Qqx r,?_⟩;refine NoPanic.normal ?_;go_wp2_with fail
  go_ret2
  exact⟨G,by rw[m.out.1];rfl,u.out.1,⟨by rw[m.out.1,m.out.2.1];exact u.out.2.1,λj v=>by rw[m.out.2.2,u.out.2.2]⟩,f.trans (r.mono f.size)⟩
 | some ad =>
  by_cases ac:c=i;rotate_left
  .go_wp2_with fail;refine o9 (λy=>∃p:Regrown,y=grow (redrawn g p.d) p.os)
    ([0,1,2,3,5,6,7].map (λk=>(true,k))++[(false,4),(false,8),(false,9),(true,10),(false,11)]) (by kernel_rfl) (by kernel_rfl) (by kernel_rfl) (by kernel_rfl) (Qqx (brf.drew)) ?_
   refine am 0 rfl rfl ?_
   go_big_quiet_step(fail)
   refine Qqz ?_;refine am 1 rfl rfl ?_
   go_big_quiet_step(fail)
   refine Qqz ?_;refine am 2 rfl rfl ?_
   go_big_quiet_step(fail)
   refine Qqz ?_;refine am 3 rfl rfl ?_
   go_big_quiet_step(fail)
   refine Qqz ?_;refine am 5 rfl rfl ?_
   go_big_quiet_step(fail)
   refine Qqz ?_;refine am 6 rfl rfl ?_
   go_big_quiet_step(fail)
   refine Qqz ?_;refine am 7 rfl rfl ?_
   go_big_quiet_step(fail)
   refine Qqz ?_;refine dc 4 (by decide) ?_;simp only[Qyq,Xqq,Qyx,Qyz];go_wp2_with fail;have P:Hid (Hs.At g ⟨some ad,i,c,z⟩):=⟨by show i<=c;omega,au,λj v=>HZ.hds j (by have:j<i:=v;show j<n;omega),λh=>by cases h⟩;have Q:Hid (Hs.At g ⟨some (ad.add (i*4)),n-i,c-i,λj=>z (i+j)⟩):=⟨by show n-i<=c-i;omega,by show c-i<=maxLen;omega,by
    have:=HZ.hds.cut (c:=c) i bg hn;rw[if_neg ac] at this;exact this,λh=>by cases h⟩
   have D:Below g.heap.size g (g.alloc (.cells #[.int .i64 h.o,.int .i64 h.l,.int .i64 h.b,.int .i64 h.n] 103)).drew:=(brf.alloc nlr _).drew;have S:Below g.heap.size g ((g.alloc (.cells #[.int .i64 h.o,.int .i64 h.l,.int .i64 h.b,.int .i64 h.n] 103)).alloc (.cells #[.slice (some ad) (i) (c),.slice (some ⟨g.heap.size,0,none⟩) 1 1,.slice (some (ad.add (i*4))) (n-i) (c-i)] 28)).drew:=((brf.alloc nlr _).alloc (by simp) _).drew;refine⟨Qqx D,?_⟩;refine dc 8 (by decide) ?_;simp only[Qyq,Xqq,Qyx,Qyz];go_wp2_with fail;refine⟨Qqx S,?_⟩;refine dc 9 (by decide) ?_;simp only[Qyq,Xqq,Qyx,Qyz];go_wp2_with fail;refine(Eu ⟨some ad,i,c,z⟩ ⟨some (ad.add (i*4)),n-i,c-i,λj=>z (i+j)⟩ h g (n+1) (lx z i h) P.out Q.out (by dsimp only;omega) (by dsimp only;omega) (by first|rfl|(dsimp only;omega)) (by rw[Hh _ _ _ _ (by omega)];simp[ax])).mono ?_;rintro e w9 ⟨G,rfl,t,A,E,r⟩;have u:=qa3 (t.mono f.size) A E;clear t A E;simp only[Hs.val];go_wp2_with fail;refine⟨Qqx r,?_⟩;refine am 10 rfl rfl ?_
   go_big_quiet_step(fail)
   refine Qqz ?_;refine dc 11 (by decide) ?_;simp only[Qyq,Xqq,Qyx,Qyz];go_wp2_with fail;refine⟨Qqx r,?_⟩;refine NoPanic.normal ?_;go_wp2_with fail
   go_ret2
   exact⟨G,by rw[m.out.1];rfl,u.out.1,⟨by rw[m.out.1,m.out.2.1];exact u.out.2.1,λj v=>by rw[m.out.2.2,u.out.2.2]⟩,f.trans (r.mono f.size)⟩
  have bc:n=i:=by omega
  subst bc;subst ac;go_wp2_with fail;refine o9 (λy=>∃p:Regrown,y=grow (redrawn g p.d) p.os)
   ([0,1,2,3,5,6,7].map (λk=>(true,k))++[(false,4),(false,8),(false,9),(true,10),(false,11)]) (by kernel_rfl) (by kernel_rfl) (by kernel_rfl) (by kernel_rfl) (Qqx (brf.drew)) ?_
  refine am 0 rfl rfl ?_
  go_big_quiet_step(fail)
  refine Qqz ?_;refine am 1 rfl rfl ?_
  go_big_quiet_step(fail)
  refine Qqz ?_;refine am 2 rfl rfl ?_
  go_big_quiet_step(fail)
  refine Qqz ?_;refine am 3 rfl rfl ?_
  go_big_quiet_step(fail)
  refine Qqz ?_;refine am 5 rfl rfl ?_
  go_big_quiet_step(fail)
  refine Qqz ?_;refine am 6 rfl rfl ?_
  go_big_quiet_step(fail)
  refine Qqz ?_;refine am 7 rfl rfl ?_
  go_big_quiet_step(fail)
  refine Qqz ?_;refine dc 4 (by decide) ?_;simp only[Qyq,Xqq,Qyx,Qyz];go_wp2_with fail;have P:=hid HZ;have Q:Hid (Hs.At g ⟨some ad,c-c,0,λj=>z (c+j)⟩):=⟨by simp,Qxz _,λi hi=>by have:i<c-c:=hi;omega,λh=>by cases h⟩;have D:Below g.heap.size g (g.alloc (.cells #[.int .i64 h.o,.int .i64 h.l,.int .i64 h.b,.int .i64 h.n] 103)).drew:=(brf.alloc nlr _).drew;have S:Below g.heap.size g ((g.alloc (.cells #[.int .i64 h.o,.int .i64 h.l,.int .i64 h.b,.int .i64 h.n] 103)).alloc (.cells #[.slice (some ad) (c) (c),.slice (some ⟨g.heap.size,0,none⟩) 1 1,.slice (some ad) (0) (0)] 28)).drew:=((brf.alloc nlr _).alloc (by simp) _).drew;refine⟨Qqx D,?_⟩;refine dc 8 (by decide) ?_;simp only[Qyq,Xqq,Qyx,Qyz];go_wp2_with fail;refine⟨Qqx S,?_⟩;refine dc 9 (by decide) ?_;simp only[Qyq,Xqq,Qyx,Qyz];go_wp2_with fail;refine(Eu ⟨some ad,c,c,z⟩ ⟨some ad,0,0,λj=>z (c+j)⟩ h g (c+1) (lx z c h) P.out (by have:=Q.out;rwa[Nat.sub_self] at this) (by dsimp only;omega) (by dsimp only;omega) (by first|rfl|(dsimp only;omega)) (by rw[Hh _ _ _ _ (by omega)];simp[ax])).mono ?_;rintro e w9 ⟨G,rfl,t,A,E,r⟩;have u:=qa3 (t.mono f.size) A E;clear t A E;simp only[Hs.val];go_wp2_with fail;refine⟨Qqx r,?_⟩;refine am 10 rfl rfl ?_
  go_big_quiet_step(fail)
  refine Qqz ?_;refine dc 11 (by decide) ?_;simp only[Qyq,Xqq,Qyx,Qyz];go_wp2_with fail;refine⟨Qqx r,?_⟩;refine NoPanic.normal ?_;go_wp2_with fail
  go_ret2
  exact⟨G,by rw[m.out.1];rfl,u.out.1,⟨by rw[m.out.1,m.out.2.1];exact u.out.2.1,λj v=>by rw[m.out.2.2,u.out.2.2]⟩,f.trans (r.mono f.size)⟩
def Au(x:Hd):Prop:=(0<=x.o/\x.o<=3)/\(0<=x.l/\x.l<=2)/\(0<=x.b/\x.b<=5)
theorem Lb{x:Hd}(h:gy x=true):Au x:=⟨(cy h).1,(cy h).2.1,(cy h).2.2.1⟩
theorem ss(x:Hd)(w:World)(h:Au x):
  Calls prog 143 #[x.val] w λe a=>e = .returned (.int .i64 (ba x))/\Below w.heap.size w a:=by
 unfold Au at h;unfold ba Hd.val;go_enter func143,ntmps143
 go_wp2
 go_ret;exact⟨rfl,brf.alloc nlr _⟩
theorem An(w:World)(x:Hd)(t:TypeId):∀j u,(df x)[j]?=some u->(w.alloc (.cells #[.int .i64 x.o,.int .i64 x.l,.int .i64 x.b,.int .i64 x.n] t)).cell? ((⟨w.heap.size,0,none⟩:Addr).add j)=some u:=by
 intro j u a;rw[Go.WideShapes.add_plain];have c:j<4:=by
  have:=(List.getElem?_eq_some_iff.1 a).1
  simpa[df] using this
 have d:Blk (w.alloc (.cells #[.int .i64 x.o,.int .i64 x.l,.int .i64 x.b,.int .i64 x.n] t)) w.heap.size t 4 (λj=>(#[.int .i64 x.o,.int .i64 x.l,.int .i64 x.b,.int .i64 x.n]:Array Value).getD j default):=Blk.mk' rfl rfl;rw[Nat.zero_add,d.cell c];have e:j=0\/j=1\/j=2\/j=3:=by omega
 rcases e with rfl|rfl|rfl|rfl<;>(simp[df] at a;rw[<-a];rfl)
theorem zk(x:Hd):∀u∈df x,u.oneCell'=true:=by
 intro u a;simp[df] at a;rcases a with rfl|rfl|rfl|rfl<;>rfl
theorem lv{base:Nat}{size:Nat}{b:List Value}(h:w.ownsRow base e size v n b)(a:Below w.heap.size w c):c.ownsRow base e size v n b :=
 h.kept (row:=none) ⟨a.os,a.tape,a.output,a.size,λj d _=>a.block j d⟩ (by cases h:v.ownBlock<;>simp)
theorem pg(h:∃p:Regrown,a=grow (redrawn w p.d) p.os):Below w.heap.size w a:=by
 obtain⟨p,rfl⟩:=h;exact Qxx _ _ _
def wA(h:Hd)(d:Bool)(x:Hd):Bool := !d&&decide (ba h<=ba x)
def ju(h:Hd)(z:Nat->Hd):Nat->List Hd × Bool
 | 0=>([],h.n==0)
 | k+1=>((ju h z k).1++(if wA h (ju h z k).2 (z k) then [h] else [])++(if ba (z k) !=ba h then [z k] else []),(ju h z k).2||wA h (ju h z k).2 (z k))
def Kp(h:Hd)(n:Nat)(z:Nat->Hd):List Hd:=if (ju h z n).2 then(ju h z n).1 else(ju h z n).1++[h]
def Ja(l:List Hd):List Value:=l.flatMap df
theorem xi(l:List Hd)(x:Hd):Ja (l++[x])=Ja l++df x:=by simp[Ja]
theorem Ln{size:Nat}{a:List Value}(h:w.ownsRow A e size v n a)(c:b<=A):w.ownsRow b e size v n a :=
 ⟨h.1,h.2.imp_right λ⟨g,cap,cur,h1,h2,h3⟩=>⟨g,cap,cur,h1,Qzx c h2,h3⟩⟩
theorem Q5(h:Hd)(z:Nat->Hd):∀k,(ju h z k).1.length<=2*k
 | 0=>Nat.le_refl _
 | k+1=>by
  have:=Q5 h z k;rw[ju];simp only[List.length_append]
  split<;>split<;>simp<;>omega
theorem Yp(s:Hs)(h:Hd)(w:World)(hs:s.At w)(hr:aw s.n (da s.z)=false)(an:Au h):
  Calls prog 88 #[s.val,.int .i64 h.o,.int .i64 h.l,.int .i64 h.b,.int .i64 h.n] w λe w'=>∃v,e = .returned v/\w'.ownsRow w.heap.size 103 4 v (Kp h s.n s.z).length (Ja (Kp h s.n s.z))/\Below w.heap.size w w':=by
 have aq:=wh hr;have HF:Hid (∀j,j<s.n->Au (s.z j)):=λj hj=>Lb (bw hr j hj);clear hr;obtain⟨i0,hi,aj,ai,ah⟩:=info_parts Kb;obtain⟨X,hW,ak,K0⟩:∃W,w.alloc (.cells #[.int .i64 h.o,.int .i64 h.l,.int .i64 h.b,.int .i64 h.n] 103)=W/\Below w.heap.size w W/\Blk W w.heap.size 103 4 (λj=>(#[.int .i64 h.o,.int .i64 h.l,.int .i64 h.b,.int .i64 h.n]:Array Value).getD j default):=⟨_,rfl,brf.alloc nlr _,Blk.mk' rfl rfl⟩;have HW:Hid (w.alloc (.cells #[.int .i64 h.o,.int .i64 h.l,.int .i64 h.b,.int .i64 h.n] 103)=X):=hW;have aa:=hid an;have HT:Hid (∀T,Below X.heap.size X T->T.cell? ⟨w.heap.size,0,none⟩=some (.int .i64 h.o)/\T.cell? ⟨w.heap.size,0+1,none⟩=some (.int .i64 h.l)/\T.cell? ⟨w.heap.size,0+2,none⟩=some (.int .i64 h.b)/\T.cell? ⟨w.heap.size,0+3,none⟩=some (.int .i64 h.n)):=λT U=>⟨(K0.below U).k 0,(K0.below U).k 1,(K0.below U).k 2,(K0.below U).k 3⟩;have HS:Hid (∀T,Below X.heap.size X T->s.At T/\Below w.heap.size w T):=λT U=>⟨(hs.below ak).below U,ak.trans (U.mono ak.size)⟩;have ay:=hid ak.size;have bl:=hs.le;have a1:=hs.cap;unfold maxLen at a1;clear hW ak K0 hs an;obtain⟨a,n,c,z⟩:=s;dsimp only at *;simp only[Hs.val];go_enter func88,ntmps88;go_wp2_with fail;rw[HW.out];clear HW
 go_loopw [12,13,14] (λv dn i wk=>∃k:Nat,k<=n/\i = .int .i64 k/\dn = .bool (ju h z k).2/\wk.ownsRow X.heap.size 103 4 v (ju h z k).1.length (Ja (ju h z k).1)/\Below X.heap.size X wk) (λ_ _ i _=>n-(intOf i).toNat)
 case atStart=>exact⟨0,Qxz _,rfl,rfl,World.ownsRow_nil _ _ _ _,Below.refl _ _⟩
 obtain⟨k,hk,rfl,rfl,own,d⟩:=hrel;have V:Hid ((ju h z k).1.length<=2*k):=Q5 h z k;by_cases ao:k<n;rotate_left
 .have a4:k=n:=by omega
  subst a4;have q1:¬(k:Int)<(k:Int):=by omega
  have HB:Hid (Below w.heap.size w wr):=(HS.out wr d).2;have HA:Hid (Kp h k z=if (ju h z k).2 then(ju h z k).1 else(ju h z k).1++[h]):=rfl
  generalize (ju h z k).1=L at *
  generalize (ju h z k).2=D at *
  cases D
  .obtain⟨r,m,p,g⟩:=HT.out wr d;simp only[Nat.zero_add] at m p g;go_wp2_with(at_builtin;refine wpList_append_own _ rfl (.tmp 61) (.tmp 63) 28 rfl X.heap.size 103 i0 (.agg #[.int .i64 0,.int .i64 0,.int .i64 0,.int .i64 0]) 4 32 underlying28 hi aj ai ah rfl (by decide) _ _ _ rfl (World.ownsRow.alloc own _) ⟨wr.heap.size,0,none⟩ 1 1 (df h) rfl rfl (An _ _ _) (zk _) (by have:=V.out;have:=aq;unfold maxLen;omega) (by have:=V.out;have:=aq;omega) (by have:=d.size;simp;omega) ?_;intro v2 Y t S ab);have d:=(d.alloc d.size _).grown S (by have:=d.size;simp;omega) (λq f=>(World.ownsRow.lt own q f).1);rw[<-xi,show ∀l:List Hd,l.length+1=(l++[h]).length from λl=>by simp] at t;have own:=t;clear r m p g S ab t;go_wp2_with fail;go_ret;exact⟨_,rfl,by rw[HA.out];exact Ln own ay.out,(HS.out _ d).2⟩
  go_wp2_with fail;go_ret;exact⟨_,rfl,by rw[HA.out];exact Ln own ay.out,HB.out⟩
 have ad:Hid (Au (z k)):=HF.out k ao;obtain⟨bb,oo,ha,bm,-⟩:=(HS.out wr d).1.hds k ao;subst ha;have HK:Hid (∀T,Below X.heap.size X T->T.cell? ⟨bb,oo+k*4,none⟩=some (.int .i64 (z k).o)/\T.cell? ⟨bb,oo+k*4+1,none⟩=some (.int .i64 (z k).l)/\T.cell? ⟨bb,oo+k*4+2,none⟩=some (.int .i64 (z k).b)/\T.cell? ⟨bb,oo+k*4+3,none⟩=some (.int .i64 (z k).n)):=λT U=>by
  obtain⟨b',o',he,-,q0,q1,q2,q3⟩:=(HS.out T U).1.hds k ao;simp only[Qkx,Qkz,and_true] at he;obtain⟨rfl,rfl⟩:=he;exact⟨q0,q1,q2,q3⟩
 have m1:(0:Int)<=(k:Int):=by omega
 have m2:(k:Int)<(n:Int):=by omega
 have HO:Hid (ju h z (k+1)=((ju h z k).1++(if wA h (ju h z k).2 (z k) then [h] else [])++(if ba (z k) !=ba h then [z k] else []),(ju h z k).2||wA h (ju h z k).2 (z k))):=rfl;have ag:Hid (k<=72):=by show _<=_;omega
 generalize (ju h z k).1=L at *
 generalize (ju h z k).2=D at *
 cases D;rotate_left
 .have Q:Hid (ju h z (k+1)=(L++(if ba (z k) !=ba h then [z k] else []),true)):=by show _=_;rw[HO.out,show wA h true (z k)=false from rfl];simp
  clear HO;obtain⟨r,m,p,g⟩:=HT.out wr d;obtain⟨K,A,B,u⟩:=dr r m p g;simp only[Nat.zero_add] at m p g A B u;obtain⟨F,x,y,E⟩:=HK.out wr d;obtain⟨P,H,M,J⟩:=dr F x y E;go_wp2_with fail;refine Qxq (by kernel_rfl) (by kernel_rfl) ?_
  repeat(go_big_quiet_step((go_at_call 143;exact Xxz (ss _ _ (by first|exact ad.out|exact aa.out)))))
  refine Qqz ?_;intro Y f;have f:=pg f;have d:=d.trans (f.mono d.size);have own:=lv own f;clear r m p g K A B u F x y E P H M J;clear f;cases hc:(ba (z k) !=ba h)
  .have G:Hid (ju h z (k+1)=(L,true)):=by show _=_;rw[Q.out,hc];simp
   clear Q;obtain⟨r,m,p,g⟩:=HT.out Y d;obtain⟨K,A,B,u⟩:=dr r m p g;simp only[Nat.zero_add] at m p g A B u;obtain⟨F,x,y,E⟩:=HK.out Y d;obtain⟨P,H,M,J⟩:=dr F x y E;go_wp2_with fail;refine Qxq (by kernel_rfl) (by kernel_rfl) ?_
   repeat(go_big_quiet_step((go_at_call 143;exact Xxz (ss _ _ (by first|exact ad.out|exact aa.out)))))
   refine Qqz ?_;intro wc f;have f:=pg f;have d:=d.trans (f.mono d.size);have own:=lv own f;clear r m p g K A B u F x y E P H M J;clear f;go_wp2_with fail;go_roundw
   case rel=>exact⟨k+1,by omega,by go_num,by rw[G.out],by rw[G.out];exact own,d⟩
   case measure=>simp[intOf];omega
  have G:Hid (ju h z (k+1)=(L++[z k],true)):=by show _=_;rw[Q.out,hc];simp
  clear Q;obtain⟨r,m,p,g⟩:=HT.out Y d;obtain⟨K,A,B,u⟩:=dr r m p g;simp only[Nat.zero_add] at m p g A B u;obtain⟨F,x,y,E⟩:=HK.out Y d;obtain⟨P,H,M,J⟩:=dr F x y E;go_wp2_with fail;refine Qxq (by kernel_rfl) (by kernel_rfl) ?_
  repeat(go_big_quiet_step((go_at_call 143;exact Xxz (ss _ _ (by first|exact ad.out|exact aa.out)))))
  refine Qqz ?_;intro wc f;have f:=pg f;have d:=d.trans (f.mono d.size);have own:=lv own f;clear r m p g K A B u F x y E P H M J;clear f;obtain⟨r,m,p,g⟩:=HT.out wc d;obtain⟨K,A,B,u⟩:=dr r m p g;simp only[Nat.zero_add] at m p g A B u;obtain⟨F,x,y,E⟩:=HK.out wc d;obtain⟨P,H,M,J⟩:=dr F x y E;go_wp2_with(at_builtin;refine wpList_append_own _ rfl (.tmp 52) (.tmp 57) 28 rfl X.heap.size 103 i0 (.agg #[.int .i64 0,.int .i64 0,.int .i64 0,.int .i64 0]) 4 32 underlying28 hi aj ai ah rfl (by decide) _ _ _ rfl (World.ownsRow.alloc own _) ⟨wc.heap.size,0,none⟩ 1 1 (df (z k)) rfl rfl (An _ _ _) (zk _) (by have:=V.out;have:=ag.out;simp;unfold maxLen;omega) (by have:=V.out;have:=ag.out;simp;omega) (by have:=d.size;simp;omega) ?_;intro v2 wd t S ab);have d:=(d.alloc d.size _).grown S (by have:=d.size;simp;omega) (λq f=>(World.ownsRow.lt own q f).1);rw[<-xi,show ∀l:List Hd,l.length+1=(l++[(z k)]).length from λl=>by simp] at t;have own:=t;clear r m p g K A B u F x y E P H M J;clear S ab t;go_wp2_with fail;go_roundw
  case rel=>exact⟨k+1,by omega,by go_num,by rw[G.out],by rw[G.out];exact own,d⟩
  case measure=>simp[intOf];omega
 by_cases U:ba h<=ba (z k);rotate_left
 .have g1:decide (ba h<=ba (z k))=false:=decide_eq_false U;have Q:Hid (ju h z (k+1)=(L++(if ba (z k) !=ba h then [z k] else []),false)):=by show _=_;rw[HO.out,show wA h false (z k)=false from by simp[wA,U]];simp
  clear HO;clear U;obtain⟨r,m,p,g⟩:=HT.out wr d;obtain⟨K,A,B,u⟩:=dr r m p g;simp only[Nat.zero_add] at m p g A B u;obtain⟨F,x,y,E⟩:=HK.out wr d;obtain⟨P,H,M,J⟩:=dr F x y E;go_wp2_with fail;refine Qxq (by kernel_rfl) (by kernel_rfl) ?_
  repeat(go_big_quiet_step((go_at_call 143;exact Xxz (ss _ _ (by first|exact ad.out|exact aa.out)))))
  refine Qqz ?_;intro Y f;have f:=pg f;have d:=d.trans (f.mono d.size);have own:=lv own f;clear r m p g K A B u F x y E P H M J;clear f;clear g1;cases hc:(ba (z k) !=ba h)
  .have G:Hid (ju h z (k+1)=(L,false)):=by show _=_;rw[Q.out,hc];simp
   clear Q;obtain⟨r,m,p,g⟩:=HT.out Y d;obtain⟨K,A,B,u⟩:=dr r m p g;simp only[Nat.zero_add] at m p g A B u;obtain⟨F,x,y,E⟩:=HK.out Y d;obtain⟨P,H,M,J⟩:=dr F x y E;go_wp2_with fail;refine Qxq (by kernel_rfl) (by kernel_rfl) ?_
   repeat(go_big_quiet_step((go_at_call 143;exact Xxz (ss _ _ (by first|exact ad.out|exact aa.out)))))
   refine Qqz ?_;intro wc f;have f:=pg f;have d:=d.trans (f.mono d.size);have own:=lv own f;clear r m p g K A B u F x y E P H M J;clear f;go_wp2_with fail;go_roundw
   case rel=>exact⟨k+1,by omega,by go_num,by rw[G.out],by rw[G.out];exact own,d⟩
   case measure=>simp[intOf];omega
  have G:Hid (ju h z (k+1)=(L++[z k],false)):=by show _=_;rw[Q.out,hc];simp
  clear Q;obtain⟨r,m,p,g⟩:=HT.out Y d;obtain⟨K,A,B,u⟩:=dr r m p g;simp only[Nat.zero_add] at m p g A B u;obtain⟨F,x,y,E⟩:=HK.out Y d;obtain⟨P,H,M,J⟩:=dr F x y E;go_wp2_with fail;refine Qxq (by kernel_rfl) (by kernel_rfl) ?_
  repeat(go_big_quiet_step((go_at_call 143;exact Xxz (ss _ _ (by first|exact ad.out|exact aa.out)))))
  refine Qqz ?_;intro wc f;have f:=pg f;have d:=d.trans (f.mono d.size);have own:=lv own f;clear r m p g K A B u F x y E P H M J;clear f;obtain⟨r,m,p,g⟩:=HT.out wc d;obtain⟨K,A,B,u⟩:=dr r m p g;simp only[Nat.zero_add] at m p g A B u;obtain⟨F,x,y,E⟩:=HK.out wc d;obtain⟨P,H,M,J⟩:=dr F x y E;go_wp2_with(at_builtin;refine wpList_append_own _ rfl (.tmp 52) (.tmp 57) 28 rfl X.heap.size 103 i0 (.agg #[.int .i64 0,.int .i64 0,.int .i64 0,.int .i64 0]) 4 32 underlying28 hi aj ai ah rfl (by decide) _ _ _ rfl (World.ownsRow.alloc own _) ⟨wc.heap.size,0,none⟩ 1 1 (df (z k)) rfl rfl (An _ _ _) (zk _) (by have:=V.out;have:=ag.out;simp;unfold maxLen;omega) (by have:=V.out;have:=ag.out;simp;omega) (by have:=d.size;simp;omega) ?_;intro v2 wd t S ab);have d:=(d.alloc d.size _).grown S (by have:=d.size;simp;omega) (λq f=>(World.ownsRow.lt own q f).1);rw[<-xi,show ∀l:List Hd,l.length+1=(l++[(z k)]).length from λl=>by simp] at t;have own:=t;clear r m p g K A B u F x y E P H M J;clear S ab t;go_wp2_with fail;go_roundw
  case rel=>exact⟨k+1,by omega,by go_num,by rw[G.out],by rw[G.out];exact own,d⟩
  case measure=>simp[intOf];omega
 have g1:decide (ba h<=ba (z k))=true:=decide_eq_true U;have Q:Hid (ju h z (k+1)=((L++[h])++(if ba (z k) !=ba h then [z k] else []),true)):=by show _=_;rw[HO.out,show wA h false (z k)=true from by simp[wA,U]];simp
 clear HO;clear U;obtain⟨r,m,p,g⟩:=HT.out wr d;obtain⟨K,A,B,u⟩:=dr r m p g;simp only[Nat.zero_add] at m p g A B u;obtain⟨F,x,y,E⟩:=HK.out wr d;obtain⟨P,H,M,J⟩:=dr F x y E;go_wp2_with fail;refine Qxq (by kernel_rfl) (by kernel_rfl) ?_
 repeat(go_big_quiet_step((go_at_call 143;exact Xxz (ss _ _ (by first|exact ad.out|exact aa.out)))))
 refine Qqz ?_;intro wa f;have f:=pg f;have d:=d.trans (f.mono d.size);have own:=lv own f;clear r m p g K A B u F x y E P H M J;clear f;obtain⟨r,m,p,g⟩:=HT.out wa d;obtain⟨K,A,B,u⟩:=dr r m p g;simp only[Nat.zero_add] at m p g A B u;obtain⟨F,x,y,E⟩:=HK.out wa d;obtain⟨P,H,M,J⟩:=dr F x y E;go_wp2_with(at_builtin;refine wpList_append_own _ rfl (.tmp 40) (.tmp 42) 28 rfl X.heap.size 103 i0 (.agg #[.int .i64 0,.int .i64 0,.int .i64 0,.int .i64 0]) 4 32 underlying28 hi aj ai ah rfl (by decide) _ _ _ rfl (World.ownsRow.alloc own _) ⟨wa.heap.size,0,none⟩ 1 1 (df h) rfl rfl (An _ _ _) (zk _) (by have:=V.out;have:=ag.out;unfold maxLen;omega) (by have:=V.out;have:=ag.out;omega) (by have:=d.size;simp;omega) ?_;intro v2 Y t S ab);have d:=(d.alloc d.size _).grown S (by have:=d.size;simp;omega) (λq f=>(World.ownsRow.lt own q f).1);rw[<-xi,show ∀l:List Hd,l.length+1=(l++[h]).length from λl=>by simp] at t;have own:=t;clear r m p g K A B u F x y E P H M J;clear S ab t g1;cases hc:(ba (z k) !=ba h)
 .have G:Hid (ju h z (k+1)=((L++[h]),true)):=by show _=_;rw[Q.out,hc];simp
  clear Q;obtain⟨r,m,p,g⟩:=HT.out Y d;obtain⟨K,A,B,u⟩:=dr r m p g;simp only[Nat.zero_add] at m p g A B u;obtain⟨F,x,y,E⟩:=HK.out Y d;obtain⟨P,H,M,J⟩:=dr F x y E;go_wp2_with fail;refine Qxq (by kernel_rfl) (by kernel_rfl) ?_
  repeat(go_big_quiet_step((go_at_call 143;exact Xxz (ss _ _ (by first|exact ad.out|exact aa.out)))))
  refine Qqz ?_;intro wc f;have f:=pg f;have d:=d.trans (f.mono d.size);have own:=lv own f;clear r m p g K A B u F x y E P H M J;clear f;go_wp2_with fail;go_roundw
  case rel=>exact⟨k+1,by omega,by go_num,by rw[G.out],by rw[G.out];exact own,d⟩
  case measure=>simp[intOf];omega
 have G:Hid (ju h z (k+1)=((L++[h])++[z k],true)):=by show _=_;rw[Q.out,hc];simp
 clear Q;obtain⟨r,m,p,g⟩:=HT.out Y d;obtain⟨K,A,B,u⟩:=dr r m p g;simp only[Nat.zero_add] at m p g A B u;obtain⟨F,x,y,E⟩:=HK.out Y d;obtain⟨P,H,M,J⟩:=dr F x y E;go_wp2_with fail;refine Qxq (by kernel_rfl) (by kernel_rfl) ?_
 repeat(go_big_quiet_step((go_at_call 143;exact Xxz (ss _ _ (by first|exact ad.out|exact aa.out)))))
 refine Qqz ?_;intro wc f;have f:=pg f;have d:=d.trans (f.mono d.size);have own:=lv own f;clear r m p g K A B u F x y E P H M J;clear f;obtain⟨r,m,p,g⟩:=HT.out wc d;obtain⟨K,A,B,u⟩:=dr r m p g;simp only[Nat.zero_add] at m p g A B u;obtain⟨F,x,y,E⟩:=HK.out wc d;obtain⟨P,H,M,J⟩:=dr F x y E;go_wp2_with(at_builtin;refine wpList_append_own _ rfl (.tmp 52) (.tmp 57) 28 rfl X.heap.size 103 i0 (.agg #[.int .i64 0,.int .i64 0,.int .i64 0,.int .i64 0]) 4 32 underlying28 hi aj ai ah rfl (by decide) _ _ _ rfl (World.ownsRow.alloc own _) ⟨wc.heap.size,0,none⟩ 1 1 (df (z k)) rfl rfl (An _ _ _) (zk _) (by have:=V.out;have:=ag.out;simp;unfold maxLen;omega) (by have:=V.out;have:=ag.out;simp;omega) (by have:=d.size;simp;omega) ?_;intro v2 wd t S ab);have d:=(d.alloc d.size _).grown S (by have:=d.size;simp;omega) (λq f=>(World.ownsRow.lt own q f).1);rw[<-xi,show ∀l:List Hd,l.length+1=(l++[(z k)]).length from λl=>by simp] at t;have own:=t;clear r m p g K A B u F x y E P H M J;clear S ab t;go_wp2_with fail;go_roundw
 case rel=>exact⟨k+1,by omega,by go_num,by rw[G.out],by rw[G.out];exact own,d⟩
 case measure=>simp[intOf];omega
def et(k:Nat)(f:Nat->Hd):List Hd:=(List.range k).map f
theorem qw(k:Nat)(f:Nat->Hd):et (k+1) f=et k f++[f k]:=by simp[et,List.range_succ]
theorem lp(k:Nat)(f:Nat->Hd):(et k f).length=k:=by simp[et]
theorem Lk(f:Nat->Hd):∀k,Ja (et k f)=ax k f
 | 0=>rfl
 | k+1=>by rw[qw,xi,Lk f k,ud]
theorem Wk{x:Hd}(e:ba h<=ba x):wA h false x=true:=by simp[wA,e]
theorem Zu{x:Hd}(e:ba x<ba h):wA h false x=false:=by simp[wA];omega
theorem M6(h x:Hd):wA h true x=false:=rfl
theorem Iq{k:Nat}{L:List Hd}{D:Bool}(e:ju h z k=(L,D)):ju h z (k+1)=(L++(if wA h D (z k) then [h] else [])++(if ba (z k) !=ba h then [z k] else []),D||wA h D (z k)):=by rw[ju,e]
theorem Ri{h:Hd}{z:Nat->Hd}{n p:Nat}(hlo:∀ j,j<p->ba (z j)<ba h)(hhi:∀ j,p<j->j<n->ba h<ba (z j))(a:ba (z p)=ba h)(b:¬h.n=0):∀k,k<=n->ju h z k=(et k (qt z p h),decide (p<k))
 | 0,_=>by simp[ju,et,b]
 | k+1,hk=>by
  rw[Iq (Ri hlo hhi a b k (by omega)),qw];unfold qt;rcases Nat.lt_trichotomy k p with c|c|c
  .have:=hlo k c;rw[decide_eq_false (by omega:¬p<k),decide_eq_false (by omega:¬p<k+1),Zu this,if_neg (by omega:¬k=p),if_pos (by simp;omega:(ba (z k) !=ba h)=true)];simp
  .subst c;rw[decide_eq_false (by omega:¬k<k),decide_eq_true (by omega:k<k+1),Wk (by omega),if_pos (rfl:k=k),if_neg (by simp;omega:¬(ba (z k) !=ba h)=true)];simp
  have:=hhi k c (by omega);rw[decide_eq_true c,decide_eq_true (by omega:p<k+1),M6,if_neg (by omega:¬k=p),if_pos (by simp;omega:(ba (z k) !=ba h)=true)];simp
theorem Qj{h:Hd}{z:Nat->Hd}{n p:Nat}(hlo:∀ j,j<p->ba (z j)<ba h)(hhi:∀ j,p<j->j<n->ba h<ba (z j))(a:p<n->ba h<ba (z p))(b:¬h.n=0):∀k,k<=n->ju h z k=(et (if k<=p then k else k+1) (lx z p h),decide (p<k))
 | 0,_=>by simp[ju,et,b]
 | k+1,hk=>by
  rw[Iq (Qj hlo hhi a b k (by omega))];rcases Nat.lt_trichotomy k p with c|c|c
  .have:=hlo k c;rw[decide_eq_false (by omega:¬p<k),decide_eq_false (by omega:¬p<k+1),Zu this,if_pos (by omega:k<=p),if_pos (by omega:k+1<=p),qw,show lx z p h k=z k by unfold lx;rw[if_pos c],if_pos (by simp;omega:(ba (z k) !=ba h)=true)];simp
  .subst c;have:=a (by omega);rw[decide_eq_false (by omega:¬k<k),decide_eq_true (by omega:k<k+1),Wk (by omega),if_pos (Nat.le_refl k),if_neg (by omega:¬k+1<=k),qw,qw,show lx z k h k=h by unfold lx;rw[if_neg (by omega),if_pos rfl],show lx z k h (k+1)=z k by unfold lx;rw[if_neg (by omega),if_neg (by omega)];rfl,if_pos (by simp;omega:(ba (z k) !=ba h)=true)];simp
  have:=hhi k c (by omega);rw[decide_eq_true c,decide_eq_true (by omega:p<k+1),M6,if_neg (by omega:¬k<=p),if_neg (by omega:¬k+1<=p),qw (k+1),show lx z p h (k+1)=z k by unfold lx;rw[if_neg (by omega),if_neg (by omega)];rfl,if_pos (by simp;omega:(ba (z k) !=ba h)=true)];simp
theorem Oc{h:Hd}{z:Nat->Hd}{n p:Nat}(hlo:∀ j,j<p->ba (z j)<ba h)(hhi:∀ j,p<j->j<n->ba h<ba (z j))(a:ba (z p)=ba h)(b:h.n=0):∀k,k<=n->ju h z k=(et (if k<=p then k else k-1) (fs z p),true)
 | 0,_=>by simp[ju,et,b]
 | k+1,hk=>by
  rw[Iq (Oc hlo hhi a b k (by omega)),M6];rcases Nat.lt_trichotomy k p with c|c|c
  .have:=hlo k c;rw[if_pos (by omega:k<=p),if_pos (by omega:k+1<=p),qw,show fs z p k=z k by unfold fs;rw[if_pos c],if_pos (by simp;omega:(ba (z k) !=ba h)=true)];simp
  .subst c;rw[if_pos (Nat.le_refl k),if_neg (by omega:¬k+1<=k),if_neg (by simp;omega:¬(ba (z k) !=ba h)=true)];simp
  have:=hhi k c (by omega);obtain⟨m,rfl⟩:∃m,k=m+1:=⟨k-1,by omega⟩;rw[if_neg (by omega:¬m+1<=p),if_neg (by omega:¬m+1+1<=p),Nat.add_sub_cancel,Nat.add_sub_cancel,qw m,show fs z p m=z (m+1) by unfold fs;rw[if_neg (by omega)],if_pos (by simp;omega:(ba (z (m+1)) !=ba h)=true)];simp
theorem J5{s:Hs}{f:Nat->Hd}(e:Kp h s.n s.z=et m f)(hs:s.At w)(k:aw s.n (da s.z)=false)(c:Au h):
  Calls prog 88 #[s.val,.int .i64 h.o,.int .i64 h.l,.int .i64 h.b,.int .i64 h.n] w λe d=>∃a:Hs,e = .returned a.val/\cz w.heap.size 103 d a/\a.n=m/\a.z=f/\Below w.heap.size w d:=by
 refine(Yp s h w hs k c).mono λe' d ⟨v,h1,h2,h3⟩=> ?_;rw[e,lp,Lk] at h2;obtain⟨a,g,p,i,j⟩:=cz.ofRow h2 nlr;exact⟨a,by rw[h1,g],p,i,j,h3⟩
theorem N8(s:Hs)(h:Hd)(p:Nat)(w:World)(hs:s.At w)(m:aw s.n (da s.z)=false)(c:Au h)(k:p<s.n)(g:ba (s.z p)=ba h)(q:¬h.n=0)(i:∀j,j<p->ba (s.z j)<ba h)(d:∀j,p<j->j<s.n->ba h<ba (s.z j)):
  Calls prog 88 #[s.val,.int .i64 h.o,.int .i64 h.l,.int .i64 h.b,.int .i64 h.n] w λe f=>∃a:Hs,e = .returned a.val/\cz w.heap.size 103 f a/\a.n=s.n/\a.z=qt s.z p h/\Below w.heap.size w f :=
 J5 (by unfold Kp;rw[Ri i d g q s.n nlr,decide_eq_true k];rfl) hs m c
theorem Xp(s:Hs)(h:Hd)(p:Nat)(w:World)(hs:s.At w)(q:aw s.n (da s.z)=false)(d:Au h)(t:p<=s.n)(i:p<s.n->ba h<ba (s.z p))(r:¬h.n=0)(k:∀j,j<p->ba (s.z j)<ba h)(f:∀j,p<j->j<s.n->ba h<ba (s.z j)):
  Calls prog 88 #[s.val,.int .i64 h.o,.int .i64 h.l,.int .i64 h.b,.int .i64 h.n] w λe g=>∃a:Hs,e = .returned a.val/\cz w.heap.size 103 g a/\a.n=s.n+1/\a.z=lx s.z p h/\Below w.heap.size w g :=
 J5 (by
  unfold Kp;rw[Qj k f i r s.n nlr];by_cases c:p<s.n
  .rw[decide_eq_true c,if_neg (by omega:¬s.n<=p)];rfl
  have m:p=s.n:=by omega
  subst m;rw[decide_eq_false (by omega),if_pos nlr,qw,show lx s.z s.n h s.n=h by unfold lx;rw[if_neg (by omega),if_pos rfl]]
  rfl) hs q d
theorem Kv(s:Hs)(h:Hd)(p:Nat)(w:World)(hs:s.At w)(k:aw s.n (da s.z)=false)(c:Au h)(q:p<s.n)(g:ba (s.z p)=ba h)(m:h.n=0)(i:∀j,j<p->ba (s.z j)<ba h)(d:∀j,p<j->j<s.n->ba h<ba (s.z j)):
  Calls prog 88 #[s.val,.int .i64 h.o,.int .i64 h.l,.int .i64 h.b,.int .i64 h.n] w λe f=>∃a:Hs,e = .returned a.val/\cz w.heap.size 103 f a/\a.n=s.n-1/\a.z=fs s.z p/\Below w.heap.size w f :=
 J5 (by unfold Kp;rw[Oc i d g m s.n nlr,if_neg (by omega:¬s.n<=p)];rfl) hs k c
theorem Pj(r s:Hs)(w:World)(A:r.At w)(hs:s.At w)(B:r.n=s.n)(l:∀j,j<r.n->r.z j=s.z j):
  Calls prog 41 #[r.val,s.val] w λe v=>e = .returned (.bool true)/\Below w.heap.size w v:=by
 obtain⟨ra,f,Q,p⟩:=r;obtain⟨sa,M,S,T⟩:=s;obtain⟨F,d,t,_⟩:=A;obtain⟨J,c,sh,_⟩:=hs;dsimp only at *;subst B;have E:=hid l;clear l;unfold maxLen at d c;simp only[Hs.val];go_enter func41,ntmps41;go_wp2_with fail
 go_loopw [5] (λi q=>∃k:Nat,k<=f/\i = .int .i64 k/\Below w.heap.size w q) (λi _=>f-(intOf i).toNat)
 case atStart=>exact⟨0,Qxz _,rfl,Below.refl _ _⟩
 obtain⟨k,K,rfl,b⟩:=hrel;by_cases a:k<f
 .obtain⟨b1,L,rfl,H,x,u,y,D⟩:=(t.below b) k a;obtain⟨b2,P,rfl,G,o,h,g,m⟩:=(sh.below b) k a;rw[<-E.out k a] at o h g m
  generalize p k=Z at x u y D o h g m
  go_wp2_with fail
  go_quiet (fail)
  go_wp2_with fail;go_roundw
  case rel=>exact⟨k+1,by omega,by go_num,below_drewN b _⟩
  case measure=>simp[intOf];omega
 go_wp2_with fail;go_ret;exact⟨rfl,b⟩
theorem rm{o l b:Int}(f:aw n (da z)=false)(i:¬keptV n z o l b=0):
  jg n z o l b<n/\bj (z (jg n z o l b)) o l b=true/\keptV n z o l b=(z (jg n z o l b)).n/\(∀j,j<jg n z o l b->ba (z j)<ba (z (jg n z o l b)))/\(∀j,jg n z o l b<j->j<n->ba (z (jg n z o l b))<ba (z j)):=by
 rcases qz n z o l b with h|⟨k,a,g,c⟩
 .exact absurd (kf h) i
 rw[Ga a g c];exact⟨a,c,mm a g c,λj d=>mq f j k d a,λj d e=>mq f k j d e⟩
theorem Dt{x:Hd}{o l b n:Int}(h:bj x o l b=true):ba x=ba ⟨o,l,b,n⟩:=by
 have a:=fi h;simp[ba,a]
theorem Xt{x:Hd}{o l b n:Int}(h:bj x o l b=true)(hx:gy x=true):Au ⟨o,l,b,n⟩:=by
 have a:=fi h;have r:=Lb hx;unfold Au at r ⊢;rw[a.1,a.2.1,a.2.2] at r;exact r
def ja(ops:Array Oper)(i:Nat):List Nat:=match ops[i]? with
 | none=>[]
 | some o=>(o.after.toList.filter (λe=>Region.binds .any e)).map (λe=>e.on)
def ip(listed:Array Bool):List Nat->Array Bool
 | []=>listed
 | i :: r=>ip (listed.setIfInBounds i true) r
def se(ops:Array Oper):List Nat->Array Bool->Bool
 | [],_=>true
 | i :: r,listed=>(Region.ready .any ops listed).contains i&&Region.free .any ops listed i&&se ops r (listed.setIfInBounds i true)
def L3(ops:Array Oper)(L:Array Bool):List Nat->List Nat->Bool
 | _,[]=>true
 | seen,i :: r=>(ja ops i).all (λd=>L.getD d false||seen.contains d)&&L3 ops L (i :: seen) r
def bu(ops:Array Oper)(i:Nat):Option Tmp:=match ops[i]? with
 | none=>none
 | some o=>o.dst
def Dy(ops:Array Oper)(rem:List Nat)(L:Array Bool):Bool :=
 (List.range ops.size).all (λi=>L.getD i true||rem.contains i||rem.all (λr=>(ja ops i).contains r)) &&
 L3 ops L [] rem&&rem.all (λr=>decide (r<ops.size) && !L.getD r true)&&decide (L.size=ops.size)&&decide ((rem.map (bu ops)).Nodup)&&rem.all (λr=>(bu ops r).isSome)
theorem zj:∀(l:List Nat) (a:Array Bool),(ip a l).size=a.size
 | [],_=>rfl
 | i :: r,a=>by rw[ip,zj r];simp
theorem Az:∀(l:List Nat) (a:Array Bool) (j:Nat),j<a.size->(ip a l)[j]?=if j∈l then some true else a[j]?
 | [],a,j,_=>by simp[ip]
 | i :: r,a,j,hj=>by
  rw[ip,Az r _ j (by simpa using hj),Array.getElem?_setIfInBounds];by_cases c:j∈r
  .simp[c]
  by_cases b:i=j
  .subst b;simp[c,hj]
  have d:¬j=i:=λe=>b e.symm;simp[c,b,d]
def ap(ops:Array Oper)(rem:List Nat)(V:Nat->Value)(a:Act):Act:=match rem with
 | []=>a
 | i :: r=>ap ops r V (a.put (bu ops i) (V i))
theorem Yz(a:Act)(d:Option Tmp):a.put d (match d with|some d=>a.tmps.getD d undef|none=>undef)=a:=by
 cases d with
 | none=>rfl
 | some d =>
  cases a with
  | mk tmps defers =>
   simp only[Act.put]
   congr 1
   apply Array.ext_getElem?
   intro i;rw[Array.getElem?_setIfInBounds];by_cases h:d=i
   .subst h;by_cases b:d<tmps.size
    .simp[b,Array.getD]
    simp[b]
   simp[h]
theorem aaa(a:Act)(d:Option Tmp)(u v:Value):(a.put d u).put d v=a.put d v:=by
 cases d with
 | none=>rfl
 | some d =>
  simp only[Act.put]
  congr 1
  apply Array.ext_getElem?
  intro i;simp only[Array.getElem?_setIfInBounds,Array.size_setIfInBounds];by_cases h:d=i<;>simp[h]
theorem Ys(a:Act){d b:Option Tmp}(u v:Value)(h:d≠b):(a.put d u).put b v=(a.put b v).put d u:=by
 cases d with
 | none=>rfl
 | some d=>cases b with
  | none=>rfl
  | some b =>
   have g:d≠b:=λe=>h (by rw[e]);simp only[Act.put]
   congr 1
   apply Array.ext_getElem?
   intro i;simp only[Array.getElem?_setIfInBounds,Array.size_setIfInBounds];by_cases f:d=i
   .have c:¬b=i:=λe=>g (f.trans e.symm);simp[f,c]
   by_cases c:b=i<;>simp[f,c]
def upd(V:Nat->Value)(i:Nat)(v:Value)(j:Nat):Value:=if j=i then v else V j
theorem Ij{c:Array Oper}:∀{b:List Nat} {V d:Nat->Value} {a:Act},(∀j∈b,V j=d j)->ap c b V a=ap c b d a
 | [],_,_,_,_=>rfl
 | i :: r,V,d,a,h=>by
  rw[ap,ap,h i (by simp)];exact Ij λj e=>h j (by simp[e])
theorem Jr{c:Array Oper}{d:Option Tmp}{v:Value}:∀{b:List Nat} {V:Nat->Value} {a:Act},d ∉ b.map (bu c)->ap c b V (a.put d v)=(ap c b V a).put d v
 | [],_,_,_=>rfl
 | i :: r,V,a,h=>by
  simp only[List.map_cons,List.mem_cons,not_or] at h;rw[ap,ap,Ys a _ _ h.1];exact Jr h.2
theorem xv{b:Array Oper}{i:Nat}{v:Value}:∀{c:List Nat} {V:Nat->Value} {a:Act},(c.map (bu b)).Nodup->i∈c->(ap b c V a).put (bu b i) v=ap b c (upd V i v) a
 | [],_,_,_,hi=>by simp at hi
 | k :: r,V,a,hn,hi=>by
  simp only[List.map_cons,List.nodup_cons] at hn;rw[ap,ap];by_cases d:k=i
  .subst d;have g:k ∉ r:=λh=>hn.1 (List.mem_map.2 ⟨k,h,rfl⟩);rw[<-Jr hn.1,aaa];have f:upd V k v k=v:=if_pos rfl;rw[f];exact Ij λj m=>(if_neg (λe:j=k=>g (by rw[<-e];exact m))).symm
  have f:upd V i v k=V k:=if_neg d;rw[f];have l:i∈r:=by
   rcases List.mem_cons.1 hi with h|h
   .exact absurd h.symm d
   exact h
  exact xv hn.2 l
theorem vd{b:Array Oper}(a:Act):∀(c:List Nat),ap b c (λi=>match bu b i with|some d=>a.tmps.getD d undef|none=>undef) a=a
 | []=>rfl
 | i :: r=>by
  rw[ap,Yz];exact vd a r
theorem ay{l:List Oper}{K:Act->World->Prop}(k:Nat){o:Oper}{a:Act}(c:l[k]?=some o)
  (h:wpList P l.toArray (Exit.then K Q) [o] a w):wpOp P l.toArray Q k K a w:=by
 unfold wpOp;simp only[Qvz,c];unfold wpList at h
 split
 .rename_i b;rw[if_pos b] at h;rcases h with h|⟨f,d⟩
  .exact .inl (Oper.wp_then (Oper.wp_mono (λi g e=>e) h))
  exact .inr ⟨f,d⟩
 rename_i b;rw[if_neg b] at h;exact h
theorem yr{P:Program}{l:List Oper}{Q:Exit->Act->World->Prop}{S:World->Prop}{K:Act->Prop}{w:World}{fuel:Nat}(hs:Region.noSelect l.toArray=true)(e:S w)(f:∀c a a' w,Q (.panic c) a w->Q (.panic c) a' w):
  ∀(d:List Nat) (os:List Oper) (b:Array Bool) (a:Act),se l.toArray d b=true->d.map (λk=>l[k]?)=os.map some->(os.all yf)=true ->
   wpQuiet P l.toArray S K os a->(∀a,K a->wpAnyH P .any l.toArray Q S fuel (ip b d) a w)->wpAnyH P .any l.toArray Q S (d.length+fuel) b a w
 | [],[],b,a,_,_,_,h,hK=>by rw[List.length_nil,Nat.zero_add];exact hK a h
 | k :: d,o :: os,b,a,hB,hk,hv,h,hK=>by
  simp only[List.map_cons,List.cons.injEq] at hk;simp only[List.all_cons,Xxx] at hv;simp only[se,Xxx] at hB;rw[List.length_cons,Nat.add_right_comm];unfold wpQuiet at h
  split at h
  .rename_i j;obtain⟨v,p,q⟩:=h;refine wpAnyH_take (by simpa using hk.1) hs hB.1.2 hB.1.1 (λc a w g=>f _ _ _ _ g) (.inl ⟨j,λm e => ?_⟩) e (yr hs e f d os _ _ hB.2 hk.2 hv.2 q hK);have:=p m e;unfold Oper.quietAt at this;cases i:(execOp a.eval o).run P m with
   | ok n w2 =>
    rw[i] at this;obtain⟨u,rfl⟩:=Be hv.1 i;simp only[Oper.quietUpon] at this;rw[this.1,this.2]
   | halt x w2=>rw[i] at this;exact this.elim
  rename_i j;exact wpAnyH_take (by simpa using hk.1) hs hB.1.2 hB.1.1 (λc a w g=>f _ _ _ _ g) (.inr ⟨by simpa using j,rfl⟩) e (yr hs e f d os _ _ hB.2 hk.2 hv.2 h hK)
 | [],_ :: _,_,_,_,hk,_,_,_=>by simp at hk
 | _ :: _,[],_,_,_,hk,_,_,_=>by simp at hk
theorem xj{b:Array Oper}{L a:Array Bool}(l:a.size=b.size):∀(seen c:List Nat),L3 b L seen c=true->(∀d,L.getD d false=true->a.getD d false=true)->(∀d∈seen,a.getD d false=true) ->
  (∀r∈c,r<b.size)->(∃r∈c,a.getD r true=false)->∃r∈c,r∈Region.ready .any b a
 | _,[],_,_,_,_,h=>by obtain⟨r,s,_⟩:=h;simp at s
 | seen,i :: r,hT,hL,hs,hlt,h=>by
  simp only[L3,Xxx] at hT;by_cases hi:a.getD i true=false
  .refine⟨i,by simp,mem_ready.2 ⟨hi,b[i]'(hlt i (by simp)),by simp[hlt i (by simp)],λe o t => ?_⟩⟩;have hd:e.on∈ja b i:=by
    unfold ja;simp only[Array.getElem?_eq_getElem (hlt i (by simp))];exact List.mem_map.2 ⟨e,List.mem_filter.2 ⟨by simpa using o,t⟩,rfl⟩
   have:=List.all_eq_true.1 hT.1 _ hd;simp only[Bool.or_eq_true,List.contains_iff_mem] at this;rcases this with g|g
   .exact hL _ g
   exact hs _ g
  obtain⟨q,p,f⟩:=h;have k:q∈r:=by
   rcases List.mem_cons.1 p with e|e
   .subst e;exact absurd f hi
   exact e
  obtain⟨x,hx,j⟩:=xj l (i :: seen) r hT.2 hL (λd hd=>by
   rcases List.mem_cons.1 hd with e|e
   .subst e;have:a.getD d true=true:=by simpa using hi
    by_cases m:d<a.size
    .simpa[Array.getD,m] using this
    exfalso;have n:a.size<=d:=by omega
    exact m (by
     have:=hlt d (by simp);omega)
   exact hs d e) (λx hx=>hlt x (by simp[hx])) ⟨q,k,f⟩
  exact⟨x,by simp[hx],j⟩
theorem Zg{c:Array Oper}{b:List Nat}{D:Nat->Value->World->Prop}{fuel:Nat}(hB:Dy c b L=true)
  (mono:∀j∈b,∀v w n,Below w.heap.size w n->D j v w->D j v n)
  (step:∀i∈b,∀(V:Nat->Value) (w:World),S w->(∀d∈ja c i,d∈b->D d (V d) w)->wpOp P c Q i (λa' n=>∃v,a'=(ap c b V a1).put (bu c i) v/\S n/\Below w.heap.size w n/\D i v n) (ap c b V a1) w)
  (done:∀(V:Nat->Value) (w:World),S w->(∀j∈b,D j (V j) w)->wpAnyH P .any c Q S fuel (ip L b) (ap c b V a1) w) :
  ∀(m:Nat) (a:Array Bool) (V:Nat->Value) (w:World),(b.filter (λr => !a.getD r true)).length=m->a.size=c.size->(∀j,j ∉ b->a[j]?=L[j]?)->S w->(∀j∈b,a.getD j true=true->D j (V j) w) ->
   wpAnyH P .any c Q S (m+fuel) a (ap c b V a1) w:=by
 simp only[Dy,Xxx,decide_eq_true_eq] at hB;obtain⟨⟨⟨⟨⟨ai,T⟩,ah⟩,a8⟩,W⟩,a6⟩:=hB;have l:∀r∈b,r<c.size/\L.getD r true=false:=λr G=>by
  have:=List.all_eq_true.1 ah r G
  simpa using this
 intro m
 induction m with
 | zero =>
  intro a V w M y p hS U;have F:∀r∈b,a.getD r true=true:=λr G=>by
   cases hq:a.getD r true
   .have:r∈b.filter (λr => !a.getD r true):=List.mem_filter.2 ⟨G,by simp[hq]⟩;rw[List.length_eq_zero_iff.1 M] at this;simp at this
   rfl
  have hl:a=ip L b:=by
   apply Array.ext_getElem?
   intro j;by_cases f:j<L.size
   .rw[Az b L j f];by_cases u:j∈b
    .rw[if_pos u];have k:=F j u;have g:j<a.size:=by omega
     simp only[Array.getD,g,dif_pos] at k;simp[g];exact k
    rw[if_neg u];exact p j u
   rw[Array.getElem?_eq_none (by omega),Array.getElem?_eq_none (by rw[zj];omega)]
  rw[Nat.zero_add,hl];exact done V w hS λj f=>U j f (F j f)
 | succ m ih =>
  intro a V w M y p hS U;have X:∃r∈b,a.getD r true=false:=by
   have am:b.filter (λr => !a.getD r true)≠[]:=λe=>by rw[e] at M;simp at M
   obtain⟨x,hx⟩:=List.exists_mem_of_ne_nil _ am;have:=List.mem_filter.1 hx;exact⟨x,this.1,by simpa using this.2⟩
  have aj:∀d,L.getD d false=true->a.getD d false=true:=λd hd=>by
   by_cases s:d∈b
   .have k:=(l d s).2;have g:d<L.size:=by have:=(l d s).1;omega
    simp only[Array.getD,g,dif_pos] at k hd;rw[k] at hd;cases hd
   have k:=p d s;by_cases g:d<L.size
   .have B:d<a.size:=by omega
    simp only[Array.getD,g,B,dif_pos] at hd ⊢;simp only[Array.getElem?_eq_getElem g,Array.getElem?_eq_getElem B,Qkx] at k;rw[Array.getInternal_eq_getElem] at hd ⊢;rw[k];exact hd
   simp[Array.getD,g] at hd
  obtain⟨r0,a7,ae⟩:=xj y [] b T aj (λd hd=>by simp at hd) (λr G=>(l r G).1) X;rw[Nat.add_right_comm];refine⟨λh0=>absurd (h0▸ae) (by simp),λi hi => ?_⟩;obtain⟨A,o,ho,ad⟩:=mem_ready.1 hi;have z:∀d∈ja c i,a.getD d false=true:=λd hd=>by
   unfold ja at hd;rw[ho] at hd;obtain⟨e,he,rfl⟩:=List.mem_map.1 hd;have:=List.mem_filter.1 he;exact ad e (by simpa using this.1) this.2
  have ab:∀d,a.getD d false=true->a.getD d true=true:=λd hd=>by
   by_cases g:d<a.size
   .simpa[Array.getD,g] using hd
   simp[Array.getD,g]
  have t:i∈b:=by
   cases hc:b.contains i;rotate_left
   .exact Qjz hc
   exfalso;have av:i<c.size:=(Qkq ho).1;have aq:i ∉ b:=λh=>by
    have:=List.contains_iff_mem.2 h;rw[this] at hc;cases hc
   have k:=List.all_eq_true.1 ai i (List.mem_range.2 av);have ar:L.getD i true=false:=by
    have g:=p i aq;have B:i<L.size:=by omega
    have h4:i<a.size:=by omega
    simp only[Array.getElem?_eq_getElem B,Array.getElem?_eq_getElem h4,Qkx] at g;simp only[Array.getD,B,h4,dif_pos] at A ⊢;rw[Array.getInternal_eq_getElem] at A ⊢;rw[<-g];exact A
   rw[ar,hc] at k;simp only[Bool.false_or] at k;obtain⟨q,hq,ak⟩:=X;have h5:=List.all_eq_true.1 k q hq;have h6:=ab q (z q (Qjz h5));rw[ak] at h6;cases h6
  refine wpOp_mono (λa' n h => ?_) (step i t V w hS λd hd s=>U d s (ab d (z d hd)));obtain⟨v,rfl,Y,ag,az⟩:=h;refine⟨Y,?_⟩;rw[xv W t];have ao:i<a.size:=by rw[y];exact(l i t).1
  have H:∀j,(a.setIfInBounds i true).getD j true=if j=i then true else a.getD j true:=λj=>by
   by_cases f:j=i
   .subst f;simp[Array.getD,ao]
   rw[if_neg f,getD_set_ne true (λe=>f e.symm)]
  refine ih (a.setIfInBounds i true) (upd V i v) n ?_ (by simpa using y) (λj f => ?_) Y (λj f aa => ?_)
  .have E:b.Nodup:=by
    exact(List.pairwise_map.1 W).imp (λh e=>h (by rw[e]))
   have e1:(b.filter (λr => !a.getD r true))=b.filter (λr => !a.getD r true):=rfl;have J:(b.filter (λr => !(a.setIfInBounds i true).getD r true))=(b.filter (λr => !a.getD r true)).erase i:=by
    have e2:b.filter (λr => !(a.setIfInBounds i true).getD r true)=(b.filter (λr => !a.getD r true)).filter (λr=>r !=i):=by
     rw[List.filter_filter];refine List.filter_congr λx hx => ?_;rw[H x];by_cases an:x=i<;>simp[an]
    rw[e2,<-List.Nodup.erase_eq_filter (E.filter _)]
   rw[J,List.length_erase_of_mem (List.mem_filter.2 ⟨t,by simp[A]⟩),M]
   rfl
  .rw[Array.getElem?_setIfInBounds,if_neg (λe:i=j=>f (by rw[<-e];exact t))];exact p j f
  unfold upd;by_cases K:j=i
  .subst K;rw[if_pos rfl];exact az
  rw[if_neg K];rw[H j,if_neg K] at aa;exact mono j f _ _ _ ag (U j f aa)
def dw(l:List Oper):List Nat->List Oper
 | []=>[]
 | k :: ks=>(l.drop k).take 1++dw l ks
theorem Ao{l:List Oper}:∀{a:List Nat},a.all (λk=>decide (k<l.length))=true->a.map (λk=>l[k]?)=(dw l a).map some
 | [],_=>rfl
 | k :: a,h=>by
  simp only[List.all_cons,Xxx,decide_eq_true_eq] at h;have b:(l.drop k).take 1=[l[k]'h.1]:=by
   rw[List.drop_eq_getElem_cons h.1]
   rfl
  rw[dw,b,List.map_cons,List.singleton_append,List.map_cons,List.getElem?_eq_getElem h.1,Ao h.2]
def Made(P:Program)(ops:Array Oper)(Q:Exit->Act->World->Prop)(S:World->Prop)(rem:List Nat)(ord:List (Bool × Nat))(a1:Act):Prop :=
 ∃D:Nat->Value->World->Prop,(∀j∈rem,∀v w w',Below w.heap.size w w'->D j v w->D j v w') /\
  (∀i∈rem,∀(V:Nat->Value) (w:World) (K:Act->World->Prop),S w->(∀d∈ja ops i,d∈rem->D d (V d) w)->(∀v w',S w'->Below w.heap.size w w'->D i v w'->K ((ap ops rem V a1).put (bu ops i) v) w')->wpOp P ops (NoPanic Q) i K (ap ops rem V a1) w) /\
  (∀(V:Nat->Value) (w:World),S w->(∀j∈rem,D j (V j) w)->yd P ops (NoPanic Q) S ord (ap ops rem V a1) w)
theorem En{l:List Oper}{a:Act}(S:World->Prop)(e b:List Nat)(f:List (Bool × Nat))(m:S w.drew)(h:wpQuiet P l.toArray S (Made P l.toArray Q S b f) (dw l e) a)(y:P.follows .mixedOrders=true:=by kernel_rfl)(hs:Region.noSelect l.toArray=true:=by kernel_rfl)(J:se l.toArray e (Array.replicate l.length false)=true:=by kernel_rfl)(q:e.all (λk=>decide (k<l.length))=true:=by kernel_rfl)(x:((dw l e).all yf)=true:=by kernel_rfl)(s:Dy l.toArray b (ip (Array.replicate l.length false) e)=true:=by kernel_rfl)(B:Hu l.toArray f (ip (ip (Array.replicate l.length false) e) b)=true:=by kernel_rfl)(K:e.length+(b.length+f.length)=l.length:=by kernel_rfl):(Code.region R l.toArray true).wp P Q a w:=by
 refine wp_region_noPanic (wp_region_held (S:=S) y ?_);have g:=s;simp only[Dy,Xxx,decide_eq_true_eq] at g;have key:=yr (Q:=NoPanic Q) (fuel:=b.length+f.length) (w:=w.drew) hs m (λc a A w h=>(h:False).elim) e (dw l e) _ a J (Ao q) x h (λa1 E => ?_)
 .rw[K] at key
  simpa using key
 obtain⟨D,mono,step,done⟩:=E;have p:(b.filter (λr => !(ip (Array.replicate l.length false) e).getD r true))=b:=by
  rw[List.filter_eq_self];intro r F;have:=List.all_eq_true.1 g.1.1.1.2 r F;simp only[Xxx] at this;exact this.2
 have:=Zg (P:=P) (Q:=NoPanic Q) (S:=S) (a1:=a1) (fuel:=f.length) s mono (λi hi V w m hd=>step i hi V w _ m hd (λv o H L u=>⟨v,rfl,H,L,u⟩)) (λV o n z=>uq hs (λc a A w h=>(h:False).elim) f _ _ o B n (done V o n z))
  b.length (ip (Array.replicate l.length false) e) (λi=>match bu l.toArray i with|some d=>a1.tmps.getD d undef|none=>undef) w.drew (by rw[p]) g.1.1.2 (λ_ _=>rfl) m (λj G t=>by
   have:=List.all_eq_true.1 g.1.1.1.2 j G;simp only[Xxx,t] at this;simp at this)
 rw[vd] at this;exact this
theorem Xn{c:Array Oper}{b:List Nat}{D:Nat->Value->List Nat->World->Prop}{fuel:Nat}(hB:Dy c b L=true)
  (mono:∀j∈b,∀v g w z,Below w.heap.size w z->D j v g w->D j v g z) (lt:∀j∈b,∀v g w,D j v g w->∀x∈g,x<w.heap.size)
  (step:∀i∈b,∀(V:Nat->Value) (G:Nat->List Nat) (w:World) (K:Act->World->Prop),S w->(∀d∈ja c i,d∈b->D d (V d) (G d) w) ->
   (∀v g z,S z->Below w.heap.size w z->(∀x∈g,w.heap.size<=x)->D i v g z->K ((ap c b V a1).put (bu c i) v) z)->wpOp P c Q i K (ap c b V a1) w)
  (done:∀(V:Nat->Value) (G:Nat->List Nat) (w:World),S w->(∀j∈b,D j (V j) (G j) w)->(∀j∈b,∀k∈b,j≠k->∀x∈G j,x ∉ G k)->wpAnyH P .any c Q S fuel (ip L b) (ap c b V a1) w) :
  ∀(m:Nat) (a:Array Bool) (V:Nat->Value) (G:Nat->List Nat) (w:World),(b.filter (λr => !a.getD r true)).length=m->a.size=c.size->(∀j,j ∉ b->a[j]?=L[j]?)->S w->(∀j∈b,a.getD j true=true->D j (V j) (G j) w) ->
   (∀j∈b,∀k∈b,a.getD j true=true->a.getD k true=true->j≠k->∀x∈G j,x ∉ G k)->wpAnyH P .any c Q S (m+fuel) a (ap c b V a1) w:=by
 simp only[Dy,Xxx,decide_eq_true_eq] at hB;obtain⟨⟨⟨⟨⟨aw,af⟩,ar⟩,bi⟩,ag⟩,bg⟩:=hB;have s:∀r∈b,r<c.size/\L.getD r true=false:=λr hr=>by
  have:=List.all_eq_true.1 ar r hr
  simpa using this
 intro m
 induction m with
 | zero =>
  intro a V G w hm J B hS X hA;have A:∀r∈b,a.getD r true=true:=λr hr=>by
   cases hq:a.getD r true
   .have:r∈b.filter (λr => !a.getD r true):=List.mem_filter.2 ⟨hr,by simp[hq]⟩;rw[List.length_eq_zero_iff.1 hm] at this;simp at this
   rfl
  have hl:a=ip L b:=by
   apply Array.ext_getElem?
   intro j;by_cases f:j<L.size
   .rw[Az b L j f];by_cases H:j∈b
    .rw[if_pos H];have p:=A j H;have l:j<a.size:=by omega
     simp only[Array.getD,l,dif_pos] at p;simp[l];exact p
    rw[if_neg H];exact B j H
   rw[Array.getElem?_eq_none (by omega),Array.getElem?_eq_none (by rw[zj];omega)]
  rw[Nat.zero_add,hl];exact done V G w hS (λj f=>X j f (A j f)) λj f k W=>hA j f k W (A j f) (A k W)
 | succ m ih =>
  intro a V G w hm J B hS X hA;have ah:∃r∈b,a.getD r true=false:=by
   have a0:b.filter (λr => !a.getD r true)≠[]:=λe=>by rw[e] at hm;simp at hm
   obtain⟨x,hx⟩:=List.exists_mem_of_ne_nil _ a0;have:=List.mem_filter.1 hx;exact⟨x,this.1,by simpa using this.2⟩
  have ax:∀d,L.getD d false=true->a.getD d false=true:=λd hd=>by
   by_cases E:d∈b
   .have p:=(s d E).2;have l:d<L.size:=by have:=(s d E).1;omega
    simp only[Array.getD,l,dif_pos] at p hd;rw[p] at hd;cases hd
   have p:=B d E;by_cases l:d<L.size
   .have h3:d<a.size:=by omega
    simp only[Array.getD,l,h3,dif_pos] at hd ⊢;simp only[Array.getElem?_eq_getElem l,Array.getElem?_eq_getElem h3,Qkx] at p;rw[Array.getInternal_eq_getElem] at hd ⊢;rw[p];exact hd
   simp[Array.getD,l] at hd
  obtain⟨r0,bh,ao⟩:=xj J [] b af ax (λd hd=>by simp at hd) (λr hr=>(s r hr).1) ah;rw[Nat.add_right_comm];refine⟨λh0=>absurd (h0▸ao) (by simp),λi hi => ?_⟩;obtain⟨U,o,ho,an⟩:=mem_ready.1 hi;have T:∀d∈ja c i,a.getD d false=true:=λd hd=>by
   unfold ja at hd;rw[ho] at hd;obtain⟨e,he,rfl⟩:=List.mem_map.1 hd;have:=List.mem_filter.1 he;exact an e (by simpa using this.1) this.2
  have al:∀d,a.getD d false=true->a.getD d true=true:=λd hd=>by
   by_cases l:d<a.size
   .simpa[Array.getD,l] using hd
   simp[Array.getD,l]
  have F:i∈b:=by
   cases hc:b.contains i;rotate_left
   .exact Qjz hc
   exfalso;have a7:i<c.size:=(Qkq ho).1;have a4:i ∉ b:=λh=>by
    have:=List.contains_iff_mem.2 h;rw[this] at hc;cases hc
   have p:=List.all_eq_true.1 aw i (List.mem_range.2 a7);have a5:L.getD i true=false:=by
    have l:=B i a4;have h3:i<L.size:=by omega
    have h4:i<a.size:=by omega
    simp only[Array.getElem?_eq_getElem h3,Array.getElem?_eq_getElem h4,Qkx] at l;simp only[Array.getD,h3,h4,dif_pos] at U ⊢;rw[Array.getInternal_eq_getElem] at U ⊢;rw[<-l];exact U
   rw[a5,hc] at p;simp only[Bool.false_or] at p;obtain⟨q,hq,ay⟩:=ah;have h5:=List.all_eq_true.1 p q hq;have h6:=al q (T q (Qjz h5));rw[ay] at h6;cases h6
  refine step i F V G w _ hS (λd hd E=>X d E (al d (T d hd))) (λv g z aj au ak ba => ?_);refine⟨aj,?_⟩;rw[xv ag F];have a3:i<a.size:=by rw[J];exact(s i F).1
  have t:∀j,(a.setIfInBounds i true).getD j true=if j=i then true else a.getD j true:=λj=>by
   by_cases f:j=i
   .subst f;simp[Array.getD,a3]
   rw[if_neg f,getD_set_ne true (λe=>f e.symm)]
  refine ih (a.setIfInBounds i true) (upd V i v) (λj=>if j=i then g else G j) z ?_ (by simpa using J) (λj f => ?_) aj (λj f y => ?_) (λj f k W y M ai x hx => ?_)
  .have ab:b.Nodup:=by
    exact(List.pairwise_map.1 ag).imp (λh e=>h (by rw[e]))
   have e1:(b.filter (λr => !a.getD r true))=b.filter (λr => !a.getD r true):=rfl;have ad:(b.filter (λr => !(a.setIfInBounds i true).getD r true))=(b.filter (λr => !a.getD r true)).erase i:=by
    have e2:b.filter (λr => !(a.setIfInBounds i true).getD r true)=(b.filter (λr => !a.getD r true)).filter (λr=>r !=i):=by
     rw[List.filter_filter];refine List.filter_congr λx hx => ?_;rw[t x];by_cases a2:x=i<;>simp[a2]
    rw[e2,<-List.Nodup.erase_eq_filter (ab.filter _)]
   rw[ad,List.length_erase_of_mem (List.mem_filter.2 ⟨F,by simp[U]⟩),hm]
   rfl
  .rw[Array.getElem?_setIfInBounds,if_neg (λe:i=j=>f (by rw[<-e];exact F))];exact B j f
  .unfold upd;by_cases n:j=i
   .subst n;rw[if_pos rfl,if_pos rfl];exact ba
   rw[if_neg n,if_neg n];rw[t j,if_neg n] at y;exact mono j f _ _ _ _ au (X j f y)
  by_cases n:j=i
  .have u:¬k=i:=λe=>ai (n.trans e.symm);rw[if_pos n] at hx;rw[if_neg u];rw[t k,if_neg u] at M;intro Y;have p:=ak x hx;have l:=lt k W _ _ _ (X k W M) x Y;omega
  rw[if_neg n] at hx;rw[t j,if_neg n] at y;by_cases u:k=i
  .rw[if_pos u];intro Y;have p:=ak x Y;have l:=lt j f _ _ _ (X j f y) x hx;omega
  rw[if_neg u];rw[t k,if_neg u] at M;exact hA j f k W y M ai x hx
def acd(P:Program)(ops:Array Oper)(Q:Exit->Act->World->Prop)(S:World->Prop)(rem:List Nat)(ord:List (Bool × Nat))(a1:Act):Prop :=
 ∃D:Nat->Value->List Nat->World->Prop,(∀j∈rem,∀v g w w',Below w.heap.size w w'->D j v g w->D j v g w')/\(∀j∈rem,∀v g w,D j v g w->∀x∈g,x<w.heap.size) /\
  (∀i∈rem,∀(V:Nat->Value) (G:Nat->List Nat) (w:World) (K:Act->World->Prop),S w->(∀d∈ja ops i,d∈rem->D d (V d) (G d) w) ->
   (∀v g w',S w'->Below w.heap.size w w'->(∀x∈g,w.heap.size<=x)->D i v g w'->K ((ap ops rem V a1).put (bu ops i) v) w')->wpOp P ops (NoPanic Q) i K (ap ops rem V a1) w) /\
  (∀(V:Nat->Value) (G:Nat->List Nat) (w:World),S w->(∀j∈rem,D j (V j) (G j) w)->(∀j∈rem,∀k∈rem,j≠k->∀x∈G j,x ∉ G k)->yd P ops (NoPanic Q) S ord (ap ops rem V a1) w)
theorem Mg{l:List Oper}{a:Act}(S:World->Prop)(d b:List Nat)(e:List (Bool × Nat))
  (y:P.follows .mixedOrders=true) (hs:Region.noSelect l.toArray=true) (J:se l.toArray d (Array.replicate l.length false)=true) (q:d.all (λk=>decide (k<l.length))=true) (x:((dw l d).all yf)=true)
  (v:Dy l.toArray b (ip (Array.replicate l.length false) d)=true) (B:Hu l.toArray e (ip (ip (Array.replicate l.length false) d) b)=true) (K:d.length+(b.length+e.length)=l.length)
  (s:S w.drew) (h:wpQuiet P l.toArray S (acd P l.toArray Q S b e) (dw l d) a):(Code.region R l.toArray true).wp P Q a w:=by
 refine wp_region_noPanic (wp_region_held (S:=S) y ?_);have g:=v;simp only[Dy,Xxx,decide_eq_true_eq] at g;have key:=yr (Q:=NoPanic Q) (fuel:=b.length+e.length) (w:=w.drew) hs s (λc a A w h=>(h:False).elim) d (dw l d) _ a J (Ao q) x h (λa1 E => ?_)
 .rw[K] at key
  simpa using key
 obtain⟨D,mono,lt,step,done⟩:=E;have o:(b.filter (λr => !(ip (Array.replicate l.length false) d).getD r true))=b:=by
  rw[List.filter_eq_self];intro r F;have:=List.all_eq_true.1 g.1.1.1.2 r F;simp only[Xxx] at this;exact this.2
 have m:∀j∈b,(ip (Array.replicate l.length false) d).getD j true=true->False:=λj i f=>by
  have:=List.all_eq_true.1 g.1.1.1.2 j i;simp only[Xxx,f] at this;simp at this
 obtain⟨p,u⟩:∃p,ap l.toArray b p a1=a1:=⟨_,vd a1 b⟩;have:=Xn (P:=P) (Q:=NoPanic Q) (S:=S) (a1:=a1) (fuel:=e.length) v mono lt step (λV G t n z H=>uq hs (λc a A w h=>(h:False).elim) e _ _ t B n (done V G t n z H))
  b.length (ip (Array.replicate l.length false) d) p (λ_=>[]) w.drew (by rw[o]) g.1.1.2 (λ_ _=>rfl) s (λj i f=>(m j i f).elim) (λj i k L f _ _=>(m j i f).elim)
 rw[u] at this;exact this
theorem acb(f:Nat)(caps:Array Value)(bad:Nat->Bool)(a:Option Addr)(n c:Nat)(w:World)(G:n<=c)(hc:c<=maxLen)(z:Nat->Od)(y:Bd w a n z)
  (F:∀args w,(callFunc f args).run prog w = .ok (.enter f args) w)
  (D:Hid (∀i d,i<n->Below w.heap.size w d->Calls prog f (#[(z i).val]++caps) d λe q=>e = .returned (.bool (bad i))/\Below d.heap.size d q)) :
  Calls prog 156 #[.slice a n c,.func (.func f) #[] caps] w λe q=>∃r:Int,e = .returned (.int .i64 r)/\decide (0<=r)=aw n bad/\Below w.heap.size w q:=by
 unfold maxLen at hc;go_enter func156,ntmps156;go_wp2_with fail
 go_loopw [8] (λi d=>∃k:Nat,k<=n/\i = .int .i64 k/\(∀j,j<k->bad j=false)/\Below w.heap.size w d) (λi _=>n-(intOf i).toNat)
 case atStart=>exact⟨0,Qxz _,rfl,λj x=>absurd x (Qzq _),Below.refl _ _⟩
 obtain⟨k,E,rfl,p,l⟩:=hrel;have u:=hid p;clear p;by_cases g:k<n;rotate_left
 .go_wp2_with fail;go_ret;have s:k=n:=by omega
  subst s;exact⟨_,rfl,by rw[cu u.out];decide,l⟩
 obtain⟨b,o,rfl,_,t,A,_⟩:=(y.below l) k g;clear y;go_wp2_with fail;refine(D.out k wr g l).mono ?_;rintro e d ⟨rfl,B⟩;have m:=l.trans (B.mono l.size);cases h:bad k
 .go_wp2_with fail;go_roundw
  case measure=>simp[intOf];omega
  refine⟨k+1,by omega,by go_num,?_,m⟩;intro j x;by_cases v:j=k
  .rw[v,h]
  exact u.out j (by omega)
 go_wp2_with fail;go_ret;exact⟨_,rfl,by rw[du g h];simp,m⟩
theorem Zw(f:Nat)(caps:Array Value)(bad:Nat->Bool)(a:Option Addr)(n c:Nat)(w:World)(o:n<=c)(hc:c<=maxLen)(z:Nat->Od)(j:Bd w a n z)
  (k:∀args w,(callFunc f args).run prog w = .ok (.enter f args) w)
  (p:Hid (∀i b,i<n->Below w.heap.size w b->Calls prog f (#[(z i).val]++caps) b λe d=>e = .returned (.bool (bad i))/\Below b.heap.size b d)) :
  Calls prog 124 #[.slice a n c,.func (.func f) #[] caps] w λe d=>e = .returned (.bool (aw n bad))/\Below w.heap.size w d:=by
 have h:=hc;unfold maxLen at hc;go_enter func124,ntmps124;go_wp2_with fail;refine(acb f caps bad a n c w o h z j k p).mono ?_;rintro e b ⟨r,rfl,g,m⟩;have l:=hid g;clear g;go_wp2_with fail;go_ret;exact⟨by rw[<-l.out];rfl,m⟩
theorem ab4(f:Nat)(caps:Array Value)(bad:Nat->Bool)(a:Option Addr)(n c:Nat)(w:World)(J:n<=c)(hc:c<=maxLen)(z:Nat->Hd)(B:jc w a n z)
  (H:∀args w,(callFunc f args).run prog w = .ok (.enter f args) w)
  (F:Hid (∀i d,i<n->Below w.heap.size w d->Calls prog f (#[(z i).val]++caps) d λe q=>e = .returned (.bool (bad i))/\Below d.heap.size d q)) :
  Calls prog 102 #[.slice a n c,.func (.func f) #[] caps] w λe q=>∃r:Int,e = .returned (.int .i64 r)/\decide (0<=r)=aw n bad/\Below w.heap.size w q:=by
 unfold maxLen at hc;go_enter func102,ntmps102;go_wp2_with fail
 go_loopw [8] (λi d=>∃k:Nat,k<=n/\i = .int .i64 k/\(∀j,j<k->bad j=false)/\Below w.heap.size w d) (λi _=>n-(intOf i).toNat)
 case atStart=>exact⟨0,Qxz _,rfl,λj y=>absurd y (Qzq _),Below.refl _ _⟩
 obtain⟨k,G,rfl,p,l⟩:=hrel;have v:=hid p;clear p;by_cases g:k<n;rotate_left
 .go_wp2_with fail;go_ret;have s:k=n:=by omega
  subst s;exact⟨_,rfl,by rw[cu v.out];decide,l⟩
 obtain⟨b,o,rfl,_,t,D,u,A⟩:=(B.below l) k g;clear B;go_wp2_with fail;refine(F.out k wr g l).mono ?_;rintro e d ⟨rfl,E⟩;have m:=l.trans (E.mono l.size);cases h:bad k
 .go_wp2_with fail;go_roundw
  case measure=>simp[intOf];omega
  refine⟨k+1,by omega,by go_num,?_,m⟩;intro j y;by_cases x:j=k
  .rw[x,h]
  exact v.out j (by omega)
 go_wp2_with fail;go_ret;exact⟨_,rfl,by rw[du g h];simp,m⟩
theorem Mc(f:Nat)(caps:Array Value)(bad:Nat->Bool)(a:Option Addr)(n c:Nat)(w:World)(o:n<=c)(hc:c<=maxLen)(z:Nat->Hd)(j:jc w a n z)
  (k:∀args w,(callFunc f args).run prog w = .ok (.enter f args) w)
  (p:Hid (∀i b,i<n->Below w.heap.size w b->Calls prog f (#[(z i).val]++caps) b λe d=>e = .returned (.bool (bad i))/\Below b.heap.size b d)) :
  Calls prog 55 #[.slice a n c,.func (.func f) #[] caps] w λe d=>e = .returned (.bool (aw n bad))/\Below w.heap.size w d:=by
 have h:=hc;unfold maxLen at hc;go_enter func55,ntmps55;go_wp2_with fail;refine(ab4 f caps bad a n c w o h z j k p).mono ?_;rintro e b ⟨r,rfl,g,m⟩;have l:=hid g;clear g;go_wp2_with fail;go_ret;exact⟨by rw[<-l.out];rfl,m⟩
theorem aby(f:Nat)(caps:Array Value)(bad:Nat->Bool)(a:Option Addr)(n c:Nat)(w:World)(J:n<=c)(hc:c<=maxLen)(z:Nat->Hd)(B:jc w a n z)
  (H:∀args w,(callFunc f args).run prog w = .ok (.enter f args) w)
  (F:Hid (∀i d,i<n->Below w.heap.size w d->Calls prog f (#[(z i).val]++caps) d λe q=>e = .returned (.bool (bad i))/\Below d.heap.size d q)) :
  Calls prog 108 #[.slice a n c,.func (.func f) #[] caps] w λe q=>∃r:Int,e = .returned (.int .i64 r)/\decide (0<=r)=aw n bad/\Below w.heap.size w q:=by
 unfold maxLen at hc;go_enter func108,ntmps108;go_wp2_with fail
 go_loopw [8] (λi d=>∃k:Nat,k<=n/\i = .int .i64 k/\(∀j,j<k->bad j=false)/\Below w.heap.size w d) (λi _=>n-(intOf i).toNat)
 case atStart=>exact⟨0,Qxz _,rfl,λj y=>absurd y (Qzq _),Below.refl _ _⟩
 obtain⟨k,G,rfl,p,l⟩:=hrel;have v:=hid p;clear p;by_cases g:k<n;rotate_left
 .go_wp2_with fail;go_ret;have s:k=n:=by omega
  subst s;exact⟨_,rfl,by rw[cu v.out];decide,l⟩
 obtain⟨b,o,rfl,_,t,D,u,A⟩:=(B.below l) k g;clear B;go_wp2_with fail;refine(F.out k wr g l).mono ?_;rintro e d ⟨rfl,E⟩;have m:=l.trans (E.mono l.size);cases h:bad k
 .go_wp2_with fail;go_roundw
  case measure=>simp[intOf];omega
  refine⟨k+1,by omega,by go_num,?_,m⟩;intro j y;by_cases x:j=k
  .rw[x,h]
  exact v.out j (by omega)
 go_wp2_with fail;go_ret;exact⟨_,rfl,by rw[du g h];simp,m⟩
theorem aca(f:Nat)(caps:Array Value)(bad:Nat->Bool)(a:Option Addr)(n c:Nat)(w:World)(o:n<=c)(hc:c<=maxLen)(z:Nat->Hd)(j:jc w a n z)
  (k:∀args w,(callFunc f args).run prog w = .ok (.enter f args) w)
  (p:Hid (∀i b,i<n->Below w.heap.size w b->Calls prog f (#[(z i).val]++caps) b λe d=>e = .returned (.bool (bad i))/\Below b.heap.size b d)) :
  Calls prog 128 #[.slice a n c,.func (.func f) #[] caps] w λe d=>e = .returned (.bool (aw n bad))/\Below w.heap.size w d:=by
 have h:=hc;unfold maxLen at hc;go_enter func128,ntmps128;go_wp2_with fail;refine(aby f caps bad a n c w o h z j k p).mono ?_;rintro e b ⟨r,rfl,g,m⟩;have l:=hid g;clear g;go_wp2_with fail;go_ret;exact⟨by rw[<-l.out];rfl,m⟩
theorem ab6(f:Nat)(caps:Array Value)(bad:Nat->Bool)(a:Option Addr)(n c:Nat)(w:World)(J:n<=c)(hc:c<=maxLen)(z:Nat->Hd)(B:jc w a n z)
  (H:∀args w,(callFunc f args).run prog w = .ok (.enter f args) w)
  (F:Hid (∀i d,i<n->Below w.heap.size w d->Calls prog f (#[(z i).val]++caps) d λe q=>e = .returned (.bool (bad i))/\Below d.heap.size d q)) :
  Calls prog 151 #[.slice a n c,.func (.func f) #[] caps] w λe q=>∃r:Int,e = .returned (.int .i64 r)/\decide (0<=r)=aw n bad/\Below w.heap.size w q:=by
 unfold maxLen at hc;go_enter func151,ntmps151;go_wp2_with fail
 go_loopw [8] (λi d=>∃k:Nat,k<=n/\i = .int .i64 k/\(∀j,j<k->bad j=false)/\Below w.heap.size w d) (λi _=>n-(intOf i).toNat)
 case atStart=>exact⟨0,Qxz _,rfl,λj y=>absurd y (Qzq _),Below.refl _ _⟩
 obtain⟨k,G,rfl,p,l⟩:=hrel;have v:=hid p;clear p;by_cases g:k<n;rotate_left
 .go_wp2_with fail;go_ret;have s:k=n:=by omega
  subst s;exact⟨_,rfl,by rw[cu v.out];decide,l⟩
 obtain⟨b,o,rfl,_,t,D,u,A⟩:=(B.below l) k g;clear B;go_wp2_with fail;refine(F.out k wr g l).mono ?_;rintro e d ⟨rfl,E⟩;have m:=l.trans (E.mono l.size);cases h:bad k
 .go_wp2_with fail;go_roundw
  case measure=>simp[intOf];omega
  refine⟨k+1,by omega,by go_num,?_,m⟩;intro j y;by_cases x:j=k
  .rw[x,h]
  exact v.out j (by omega)
 go_wp2_with fail;go_ret;exact⟨_,rfl,by rw[du g h];simp,m⟩
theorem acc(f:Nat)(caps:Array Value)(bad:Nat->Bool)(a:Option Addr)(n c:Nat)(w:World)(o:n<=c)(hc:c<=maxLen)(z:Nat->Hd)(j:jc w a n z)
  (k:∀args w,(callFunc f args).run prog w = .ok (.enter f args) w)
  (p:Hid (∀i b,i<n->Below w.heap.size w b->Calls prog f (#[(z i).val]++caps) b λe d=>e = .returned (.bool (bad i))/\Below b.heap.size b d)) :
  Calls prog 129 #[.slice a n c,.func (.func f) #[] caps] w λe d=>e = .returned (.bool (aw n bad))/\Below w.heap.size w d:=by
 have h:=hc;unfold maxLen at hc;go_enter func129,ntmps129;go_wp2_with fail;refine(ab6 f caps bad a n c w o h z j k p).mono ?_;rintro e b ⟨r,rfl,g,m⟩;have l:=hid g;clear g;go_wp2_with fail;go_ret;exact⟨by rw[<-l.out];rfl,m⟩
end Go.Proofs.YtbcacebifpagpafGreat
