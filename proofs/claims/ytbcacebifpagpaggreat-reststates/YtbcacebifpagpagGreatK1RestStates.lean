/- Texts that were built one behind the other, joined; what RestStates does not reach is left out. -/
import Derived.WalkKit
import Derived.Test.YtbcacebifpagpagGreatRows
import Derived.Laws.EntriesVeiled
import Derived.WalkSpells
import Derived.WalkLawsBesides
import Derived.Deep.QuietTactic
import Derived.BigQuiet
import Derived.Deep.RegionHeld3
import Derived.Shelf.Abstract
import Derived.Maps.AppendAt
import Derived.Orders
import Derived.Lib.QuietBelow
import Derived.Lib.AppendZerosOnto
import Derived.Lib.Walk
import Derived.Lib.SliceRun
import Derived.Laws.AppendOwnNone
import Derived.Deep.OwnRows
import Derived.BigRegion
set_option maxHeartbeats 4000000
set_option maxRecDepth 100000
set_option linter.unusedVariables false
namespace Go.Proofs.YtbcacebifpagpagGreat
open _root_.Go.Proofs.Tryz
open Go.RowKit
abbrev Qqq:=@Go.cell_regrown
abbrev Qqx:=@Go.regrown_of_below
abbrev Qqz:=@Go.wpQuiet_nil
abbrev Qxq:=@Go.wp_region_quiet_below
abbrev Qxx:=@Go.below_regrown
abbrev Qxz:=@Nat.zero_le
abbrev Qzq:=@Nat.not_lt_zero
abbrev Qzx:=@Nat.le_trans
abbrev Qzz:=@Int.eq_ofNat_of_zero_le
abbrev Qjq.{u}:=@List.forall_mem_nil.{u}
theorem Qjx.{u}{α:Type u}{p:α->Prop}{a:α}{l:List α}(h:p a/\∀x,x∈l->p x):∀x,x∈a::l->p x:=List.forall_mem_cons.2 h
theorem Qjz.{u}{α:Type u}[BEq α][LawfulBEq α]{a:α}{s:List α}(h:s.contains a=true):a∈s:=List.contains_iff_mem.1 h
theorem Qkq.{u}{α:Type u}{i:Nat}{b:α}{s:Array α}(h:s[i]?=some b):∃h:i<s.size,s[i]=b:=Array.getElem?_eq_some_iff.1 h
abbrev Qkx.{u}:=@Option.some.injEq.{u}
abbrev Qkz:=@Go.Addr.mk.injEq
abbrev Qvq.{u}:=@List.setIfInBounds_toArray.{u}
abbrev Qvx.{u}:=@List.getElem?_cons_zero.{u}
abbrev Qvz.{u}:=@List.getElem?_toArray.{u}
abbrev Qwq.{u}:=@List.getElem?_cons_succ.{u}
abbrev Qwx.{u}:=@List.set_cons_succ.{u}
abbrev Qwz.{u}:=@List.set_cons_zero.{u}
abbrev Qyq.{u}:=@List.drop_succ_cons.{u}
abbrev Qyx.{u}:=@List.take_succ_cons.{u}
abbrev Qyz.{u}:=@List.take_zero.{u}
abbrev Xqq.{u}:=@List.drop_zero.{u}
abbrev Xqx.{u}:=@List.nil_append.{u}
abbrev Xqz.{u}:=@List.cons_append.{u}
abbrev Xxq:=@Bool.or_eq_false_iff
abbrev Xxx:=@Bool.and_eq_true
abbrev Xxz:=@Calls.regrown_of
abbrev Xzq:=@bodyPost_ret
abbrev Xzx:=@Nat.lt_of_lt_of_le
theorem qa2{b a:Prop}(c:b)(d:a):Go.RowKit.Hid (b/\a):=⟨c,d⟩
theorem qa3{a b c:Prop}(e:a)(f:b)(d:c):Go.RowKit.Hid (a/\b/\c):=⟨e,f,d⟩
theorem qa4{a c d b:Prop}(f:a)(h:c)(e:d)(g:b):Go.RowKit.Hid (a/\c/\d/\b):=⟨f,h,e,g⟩
theorem qa5{b d e c a:Prop}(i:b)(g:d)(j:e)(f:c)(h:a):Go.RowKit.Hid (b/\d/\e/\c/\a):=⟨i,g,j,f,h⟩
theorem qa6{b e f c a d:Prop}(k:b)(h:e)(j:f)(g:c)(i:a)(l:d):Go.RowKit.Hid (b/\e/\f/\c/\a/\d):=⟨k,h,j,g,i,l⟩
theorem qa7{b f g c a d e:Prop}(l:b)(i:f)(k:g)(h:c)(j:a)(n:d)(m:e):Go.RowKit.Hid (b/\f/\g/\c/\a/\d/\e):=⟨l,i,k,h,j,n,m⟩
theorem qa8{b g h c a d f e:Prop}(n:b)(j:g)(l:h)(i:c)(k:a)(p:d)(o:f)(m:e):Go.RowKit.Hid (b/\g/\h/\c/\a/\d/\f/\e):=⟨n,j,l,i,k,p,o,m⟩
theorem hid{p:Prop}(h:p):Go.RowKit.Hid p:=h
theorem nlr{n:Nat}:n<=n:=Nat.le_refl n
theorem brf{B:Nat}{w:World}:Go.RowKit.Below B w w:=Go.RowKit.Below.refl B w
theorem ah{P:Program}{f:Nat}{args:Array Value}{w:World}{R:Ending->World->Prop}{v:Value}
  (h:Calls P f args w λe a=>e = .returned v/\a=w) (k:R (.returned v) w):Calls P f args w R :=
 h.mono (by rintro e a ⟨rfl,rfl⟩;exact k)
def inB(n low high:Int):Bool:=decide (low<=n/\n<=high)
theorem aq{n low high:Int}(h:inB n low high=true):low<=n/\n<=high:=by simpa[inB] using h
theorem Ow{n low high:Int}(h:inB n low high=false):¬(low<=n/\n<=high):=by simpa[inB] using h
theorem bq{n low high:Int}(h:low<=n/\n<=high):inB n low high=true:=by simpa[inB] using h
theorem Ws{n low high:Int}(h:¬(low<=n/\n<=high)):inB n low high=false:=by simpa[inB] using h
def aw(n:Nat)(bad:Nat->Bool):Bool:=(List.range n).any bad
theorem ct{n:Nat}{bad:Nat->Bool}(h:∀j,j<n->bad j=false):aw n bad=false:=by
 unfold aw;rw[List.any_eq_false];intro x hx;simp[h x (List.mem_range.1 hx)]
theorem dt{n k:Nat}{bad:Nat->Bool}(a:k<n)(h:bad k=true):aw n bad=true:=by
 unfold aw;rw[List.any_eq_true];exact⟨k,List.mem_range.2 a,h⟩
theorem di{n:Nat}{bad:Nat->Bool}(h:aw n bad=false):∀j,j<n->bad j=false:=by
 intro j a;cases b:bad j
 .rfl
 rw[dt a b] at h;cases h
theorem V7{n:Nat}{bad:Nat->Bool}(h:aw n bad=true):∃j,j<n/\bad j=true:=by
 unfold aw at h;rw[List.any_eq_true] at h;obtain⟨x,hx,a⟩:=h;exact⟨x,List.mem_range.1 hx,a⟩
theorem nz{n:Nat}{f g:Nat->Bool}(h:∀j,j<n->f j=g j):aw n f=aw n g:=by
 cases b:aw n g
 .exact ct λj a=>(h j a).trans (di b j a)
 obtain⟨j,a,c⟩:=V7 b;exact dt a ((h j a).trans c)
theorem Dl(n:Nat)(f:Nat->Bool):aw (n+1) f=(aw n f||f n):=by
 unfold aw;rw[List.range_succ];simp
structure Bin where
 front:Bool
 room:Int
 low:Int
 high:Int
def Bin.val(x:Bin):Value := .agg #[.bool x.front,.int .i64 x.room,.int .i64 x.low,.int .i64 x.high]
def qf(x:Bin):Bool := !inB x.room 0 1000 || !inB x.low 0 x.high||decide (200<x.high)
def pv(x:Int):Bool := !inB x 1 9
def po(x:Int):Bool := !inB x 0 200
theorem Dn(x:Bin):qf x=(!inB x.room 0 1000 || !inB x.high 0 200 || !inB x.low 0 x.high):=by
 unfold qf inB;rw[Bool.eq_iff_iff];simp only[Bool.or_eq_true,Bool.not_eq_true',decide_eq_true_eq,decide_eq_false_iff_not];omega
def vm(w:World)(a:Option Addr)(n:Nat)(z:Nat->Int):Prop :=
 ∀i,i<n->∃b o,a=some ⟨b,o,none⟩/\b<w.heap.size/\w.cell? ⟨b,o+i,none⟩=some (.int .i64 (z i))
theorem vm.below{w d:World}{a:Option Addr}{n:Nat}{z:Nat->Int}(h:vm w a n z)(c:Below w.heap.size w d):vm d a n z:=by
 intro i hi;obtain⟨b,o,f,e,hc⟩:=h i hi;exact⟨b,o,f,Xzx e c.size,(c.cell (p:=⟨b,o+i,none⟩) e).trans hc⟩
def se(w:World)(a:Option Addr)(n:Nat)(z:Nat->Bin):Prop :=
 ∀i,i<n->∃b o,a=some ⟨b,o,none⟩/\b<w.heap.size/\w.cell? ⟨b,o+i*4,none⟩=some (.bool (z i).front) /\
  w.cell? ⟨b,o+i*4+1,none⟩=some (.int .i64 (z i).room)/\w.cell? ⟨b,o+i*4+2,none⟩=some (.int .i64 (z i).low) /\
  w.cell? ⟨b,o+i*4+3,none⟩=some (.int .i64 (z i).high)
theorem se.below{w e:World}{a:Option Addr}{n:Nat}{z:Nat->Bin}(h:se w a n z)(c:Below w.heap.size w e):se e a n z:=by
 intro i hi;obtain⟨b,o,k,d,j,g,l,f⟩:=h i hi;exact⟨b,o,k,Xzx d c.size,(c.cell (p:=⟨b,o+i*4,none⟩) d).trans j,(c.cell (p:=⟨b,o+i*4+1,none⟩) d).trans g,
  (c.cell (p:=⟨b,o+i*4+2,none⟩) d).trans l,(c.cell (p:=⟨b,o+i*4+3,none⟩) d).trans f⟩
structure Rw where
 a:Option Addr
 n:Nat
 c:Nat
 z:Nat->Int
def Rw.val(r:Rw):Value := .slice r.a r.n r.c
structure Rw.At(w:World)(r:Rw):Prop where
 le:r.n<=r.c
 cap:r.c<=maxLen
 ints:vm w r.a r.n r.z
theorem Rw.At.below{w a:World}{r:Rw}(h:r.At w)(b:Below w.heap.size w a):r.At a:=⟨h.le,h.cap,h.ints.below b⟩
def Er(w:World)(a:Option Addr)(n:Nat)(r:Nat->Rw):Prop :=
 ∀i,i<n->∃b o,a=some ⟨b,o,none⟩/\b<w.heap.size/\w.cell? ⟨b,o+i,none⟩=some (.slice (r i).a (r i).n (r i).c)/\(r i).At w
theorem Er.below{w d:World}{a:Option Addr}{n:Nat}{z:Nat->Rw}(h:Er w a n z)(c:Below w.heap.size w d):Er d a n z:=by
 intro i hi;obtain⟨b,o,g,e,hc,f⟩:=h i hi;exact⟨b,o,g,Xzx e c.size,(c.cell (p:=⟨b,o+i,none⟩) e).trans hc,f.below c⟩
structure Pl where
 ab:Option Addr
 nb:Nat
 cb:Nat
 zb:Nat->Bin
 sa:Option Addr
 ns:Nat
 cs:Nat
 zs:Nat->Int
def Pl.val(p:Pl):Value := .agg #[.slice p.ab p.nb p.cb,.slice p.sa p.ns p.cs]
structure Pl.At(w:World)(p:Pl):Prop where
 leb:p.nb<=p.cb
 capb:p.cb<=maxLen
 bins:se w p.ab p.nb p.zb
 les:p.ns<=p.cs
 caps:p.cs<=maxLen
 sizes:vm w p.sa p.ns p.zs
theorem Pl.At.below{w a:World}{p:Pl}(h:p.At w)(b:Below w.heap.size w a):p.At a:=⟨h.leb,h.capb,h.bins.below b,h.les,h.caps,h.sizes.below b⟩
def iy(p:Pl):Int :=
 if inB p.nb 1 6&&inB p.ns 1 3 then(if aw p.nb (λi=>qf (p.zb i))||aw p.ns (λi=>pv (p.zs i)) then 3 else 0) else 2
structure Sh where
 a:Option Addr
 n:Nat
 c:Nat
 r:Nat->Rw
def Sh.val(s:Sh):Value := .slice s.a s.n s.c
structure Sh.At(w:World)(s:Sh):Prop where
 le:s.n<=s.c
 cap:s.c<=maxLen
 rows:Er w s.a s.n s.r
theorem Sh.At.below{w a:World}{s:Sh}(h:s.At w)(b:Below w.heap.size w a):s.At a:=⟨h.le,h.cap,h.rows.below b⟩
def n9(p:Pl)(r:Rw):Bool:=((r.n:Int) !=(p.ns:Int))||aw r.n (λi=>po (r.z i))
def ev(p:Pl)(s:Sh):Int :=
 if iy p==0 then(if ((s.n:Int) !=(p.nb:Int))||aw s.n (λi=>n9 p (s.r i)) then 1 else 0) else iy p
structure P7(p:Pl):Prop where
 nb1:1<=p.nb
 nb6:p.nb<=6
 ns1:1<=p.ns
 ns3:p.ns<=3
 bins:∀i,i<p.nb->qf (p.zb i)=false
 sizes:∀i,i<p.ns->1<=p.zs i/\p.zs i<=9
theorem Mp{p:Pl}(h:iy p=0):P7 p:=by
 unfold iy at h;cases d:(inB p.nb 1 6&&inB p.ns 1 3)
 .simp[d] at h
 rw[d] at h;simp only[if_true] at h;cases e:(aw p.nb (λi=>qf (p.zb i))||aw p.ns (λi=>pv (p.zs i)))
 .rw[Xxx] at d;have a:=aq d.1;have b:=aq d.2;rw[Xxq] at e;refine⟨by omega,by omega,by omega,by omega,di e.1,λi hi => ?_⟩;have c:=di e.2 i hi;simp only[pv,Bool.not_eq_false'] at c;exact aq c
 simp[e] at h
structure um(p:Pl)(s:Sh):Prop where
 pl:P7 p
 n:s.n=p.nb
 len:∀i,i<s.n->(s.r i).n=p.ns
 num:∀i,i<s.n->∀j,j<p.ns->0<=(s.r i).z j/\(s.r i).z j<=200
theorem uq{p:Pl}{s:Sh}(h:ev p s=0):iy p=0/\um p s:=by
 unfold ev at h;by_cases d:iy p=0;rotate_left
 .simp[d] at h
 simp only[d,beq_self_eq_true,if_true] at h;cases f:(((s.n:Int) !=(p.nb:Int))||aw s.n (λi=>n9 p (s.r i)))
 .rw[Xxq] at f;obtain⟨a,b⟩:=f;have k:s.n=p.nb:=by have g:(s.n:Int)=(p.nb:Int):=(by simpa using a);omega
  have e:∀i,i<s.n->(s.r i).n=p.ns/\∀j,j<(s.r i).n->po ((s.r i).z j)=false:=by
   intro i hi;have c:=di b i hi;simp only[n9,Xxq] at c;exact⟨by have g:((s.r i).n:Int)=(p.ns:Int):=(by simpa using c.1);omega,di c.2⟩
  refine⟨d,Mp d,k,λi hi=>(e i hi).1,λi hi j l => ?_⟩;have c:=(e i hi).2 j (by rw[(e i hi).1];exact l);simp only[po,Bool.not_eq_false'] at c;exact aq c
 simp[f] at h
def ey(z zs:Nat->Int):Nat->Int
 | 0=>0
 | k+1=>ey z zs k+z k*zs k
def cu(z:Nat->Int):Nat->Int
 | 0=>0
 | k+1=>cu z k+z k
theorem Da{a b:Int}(c:0<=a/\a<=200)(d:1<=b/\b<=9):0<=a*b/\a*b<=1800:=by
 obtain⟨e,a1⟩:=c;have:b=1\/b=2\/b=3\/b=4\/b=5\/b=6\/b=7\/b=8\/b=9:=by omega
 rcases this with rfl|rfl|rfl|rfl|rfl|rfl|rfl|rfl|rfl<;>omega
theorem wn{z zs:Nat->Int}{n:Nat}(h:∀j,j<n->(0<=z j/\z j<=200)/\1<=zs j/\zs j<=9):∀k,k<=n->0<=ey z zs k/\ey z zs k<=1800*k
 | 0,_=>by simp[ey]
 | k+1,hk=>by
  have a:=wn h k (by omega);have:=Da (h k (by omega)).1 (h k (by omega)).2;simp only[ey];omega
theorem De{z:Nat->Int}{n:Nat}(h:∀j,j<n->0<=z j/\z j<=200):∀k,k<=n->0<=cu z k/\cu z k<=200*k
 | 0,_=>by simp[cu]
 | k+1,hk=>by
  have a:=De h k (by omega);have:=h k (by omega);simp only[cu];omega
theorem Dg{z z' zs:Nat->Int}:∀{n:Nat},(∀j,j<n->z j=z' j)->ey z zs n=ey z' zs n
 | 0,_=>rfl
 | n+1,h=>by simp only[ey];rw[Dg (n:=n) λj a=>h j (by omega),h n (by omega)]
theorem re{z z':Nat->Int}:∀{n:Nat},(∀j,j<n->z j=z' j)->cu z n=cu z' n
 | 0,_=>rfl
 | n+1,h=>by simp only[cu];rw[re (n:=n) λj a=>h j (by omega),h n (by omega)]
def ui(p:Pl)(s:Sh)(bin:Int):Int:=if ev p s==0 then(if inB bin 0 ((s.n:Int)-1) then 0 else 3) else ev p s
def Gv(p:Pl)(s:Sh)(bin:Int):Int:=if ui p s bin==0 then ey (s.r bin.toNat).z p.zs p.ns else 0
def Gt(p:Pl)(s:Sh)(good:Int):Int:=if ev p s==0 then(if inB good 0 ((p.ns:Int)-1) then 0 else 3) else ev p s
def Ks(p:Pl)(s:Sh)(good:Int):Int:=if Gt p s good==0 then cu (λi=>(s.r i).z good.toNat) s.n else 0
def ue(p:Pl)(s:Sh)(bin good:Int):Int:=if ev p s==0 then(if inB bin 0 ((p.nb:Int)-1)&&inB good 0 ((p.ns:Int)-1) then 0 else 3) else ev p s
def Ej(p:Pl)(s:Sh)(bin good n:Int):Int :=
 if ue p s bin good==0 then(if inB n (-((s.r bin.toNat).z good.toNat)) (200-(s.r bin.toNat).z good.toNat) then 0 else 3) else ue p s bin good
def Ek(s:Sh)(bin good n:Int)(i j:Nat):Int:=if i=bin.toNat/\j=good.toNat then(s.r i).z j+n else(s.r i).z j
def Li(p:Pl)(s:Sh)(bin good n:Int)(w':World)(v:Value):Prop :=
 if Ej p s bin good n=0 then ∃s':Sh,v=s'.val/\s'.At w'/\s'.n=s.n/\∀i,i<s.n->(s'.r i).n=(s.r i).n/\∀j,j<(s.r i).n->(s'.r i).z j=Ek s bin good n i j
 else v = .slice none 0 0
theorem Li.below{p:Pl}{s:Sh}{bin good n:Int}{w b:World}{v:Value}(h:Li p s bin good n w v)(d:Below w.heap.size w b):Li p s bin good n b v:=by
 unfold Li at *
 split
 .rename_i a;rw[if_pos a] at h;obtain⟨f,e,g,c⟩:=h;exact⟨f,e,g.below d,c⟩
 rename_i a
 rwa[if_neg a] at h
theorem En{p:Pl}{s:Sh}{bin good:Int}(a:ev p s=0):ue p s bin good=if inB bin 0 ((s.n:Int)-1)&&inB good 0 ((p.ns:Int)-1) then 0 else 3:=by
 have:=(uq a).2.n;simp[ue,a,this]
def zw(z:Int):UInt8:=UInt8.ofNat (z%256).toNat
theorem T3(z:Int):((zw z).toNat:Int)=z%256:=by
 unfold zw;have c:0<=z%256:=Int.emod_nonneg _ (by decide);have b:z%256<256:=Int.emod_lt_of_pos _ (by decide);have a:(UInt8.ofNat (z%256).toNat).toNat=(z%256).toNat%256:=rfl;rw[a];omega
def sv(z:Int):Bool := !inB z 0 255
def rdN(t:List UInt8)(i:Nat):Int:=((t.getD i 0).toNat:Int)
theorem Xl(t:List UInt8)(i:Nat):0<=rdN t i/\rdN t i<=255:=by
 unfold rdN;have:=(t.getD i 0).toNat_lt;omega
theorem ch(n low high:Int)(w:World):
  Calls prog 63 #[.int .i64 n,.int .i64 low,.int .i64 high] w λe a=>e = .returned (.bool (inB n low high))/\a=w:=by
 unfold inB;go_enter func63,ntmps63
 go_wp2
 all_goals go_ret
 all_goals refine⟨?_,rfl⟩
 all_goals simp
 all_goals omega
theorem ce(n low high:Int)(w:World):
  Calls prog 23 #[.int .i64 n,.int .i64 low,.int .i64 high] w λe a=>e = .returned (.bool (inB n low high))/\a=w:=by
 unfold inB;go_enter func23,ntmps23
 go_wp2
 all_goals go_ret
 all_goals refine⟨?_,rfl⟩
 all_goals simp
 all_goals omega
theorem Nr(x:Bin)(w:World):
  Calls prog 123 #[x.val] w λe a=>e = .returned (.bool (qf x))/\Below w.heap.size w a:=by
 unfold qf Bin.val;go_enter func123,ntmps123;go_wp2_with(go_at_call 63;refine ah (ch _ _ _ _) ?_)
 all_goals go_ret
 all_goals exact⟨by simp[*],brf.alloc nlr _⟩
theorem Ns(x:Int)(w:World):
  Calls prog 124 #[.int .i64 x] w λe a=>e = .returned (.bool (pv x))/\a=w:=by
 unfold pv;go_enter func124,ntmps124;go_wp2_with(go_at_call 63;refine ah (ch _ _ _ _) ?_)
 all_goals go_ret
 all_goals exact⟨rfl,rfl⟩
theorem acz(f:Nat)(caps:Array Value)(bad:Nat->Bool)(a:Option Addr)(n c:Nat)(w:World)(D:n<=c)(hc:c<=maxLen)(z:Nat->Int)(t:vm w a n z)
  (F:∀args w,(callFunc f args).run prog w = .ok (.enter f args) w)
  (B:Hid (∀i d,i<n->Below w.heap.size w d->Calls prog f (#[.int .i64 (z i)]++caps) d λe q=>e = .returned (.bool (bad i))/\Below d.heap.size d q)) :
  Calls prog 126 #[.slice a n c,.func (.func f) #[] caps] w λe q=>∃r:Int,e = .returned (.int .i64 r)/\decide (0<=r)=aw n bad/\Below w.heap.size w q:=by
 unfold maxLen at hc;go_enter func126,ntmps126;go_wp2_with fail
 go_loopw [8] (λi d=>∃k:Nat,k<=n/\i = .int .i64 k/\(∀j,j<k->bad j=false)/\Below w.heap.size w d) (λi _=>n-(intOf i).toNat)
 case atStart=>exact⟨0,Qxz _,rfl,λj u=>absurd u (Qzq _),Below.refl _ _⟩
 obtain⟨k,E,rfl,m,h⟩:=hrel;have x:=hid m;clear m;by_cases l:k<n;rotate_left
 .go_wp2_with fail;go_ret;have s:k=n:=by omega
  subst s;exact⟨_,rfl,by rw[ct x.out];decide,h⟩
 obtain⟨b,o,rfl,_,A⟩:=(t.below h) k l;clear t;go_wp2_with fail;refine(B.out k wr l h).mono ?_;rintro e d ⟨rfl,v⟩;have p:=h.trans (v.mono h.size);cases g:bad k
 .go_wp2_with fail;go_roundw
  case measure=>simp[intOf];omega
  refine⟨k+1,by omega,by go_num,?_,p⟩;intro j u;by_cases y:j=k
  .rw[y,g]
  exact x.out j (by omega)
 go_wp2_with fail;go_ret;exact⟨_,rfl,by rw[dt l g];simp,p⟩
theorem ac0(f:Nat)(caps:Array Value)(bad:Nat->Bool)(a:Option Addr)(n c:Nat)(w:World)(B:n<=c)(hc:c<=maxLen)(r:Nat->Rw)(t:Er w a n r)
  (E:∀args w,(callFunc f args).run prog w = .ok (.enter f args) w)
  (A:Hid (∀i d,i<n->Below w.heap.size w d->Calls prog f (#[.slice (r i).a (r i).n (r i).c]++caps) d λe q=>e = .returned (.bool (bad i))/\Below d.heap.size d q)) :
  Calls prog 127 #[.slice a n c,.func (.func f) #[] caps] w λe q=>∃r:Int,e = .returned (.int .i64 r)/\decide (0<=r)=aw n bad/\Below w.heap.size w q:=by
 unfold maxLen at hc;go_enter func127,ntmps127;go_wp2_with fail
 go_loopw [8] (λi d=>∃k:Nat,k<=n/\i = .int .i64 k/\(∀j,j<k->bad j=false)/\Below w.heap.size w d) (λi _=>n-(intOf i).toNat)
 case atStart=>exact⟨0,Qxz _,rfl,λj u=>absurd u (Qzq _),Below.refl _ _⟩
 obtain⟨k,D,rfl,m,h⟩:=hrel;have x:=hid m;clear m;by_cases l:k<n;rotate_left
 .go_wp2_with fail;go_ret;have s:k=n:=by omega
  subst s;exact⟨_,rfl,by rw[ct x.out];decide,h⟩
 obtain⟨b,o,rfl,_,z,_⟩:=(t.below h) k l;clear t;go_wp2_with fail;refine(A.out k wr l h).mono ?_;rintro e d ⟨rfl,v⟩;have p:=h.trans (v.mono h.size);cases g:bad k
 .go_wp2_with fail;go_roundw
  case measure=>simp[intOf];omega
  refine⟨k+1,by omega,by go_num,?_,p⟩;intro j u;by_cases y:j=k
  .rw[y,g]
  exact x.out j (by omega)
 go_wp2_with fail;go_ret;exact⟨_,rfl,by rw[dt l g];simp,p⟩
theorem acy(f:Nat)(caps:Array Value)(bad:Nat->Bool)(a:Option Addr)(n c:Nat)(w:World)(G:n<=c)(hc:c<=maxLen)(z:Nat->Bin)(x:se w a n z)
  (J:∀args w,(callFunc f args).run prog w = .ok (.enter f args) w)
  (F:Hid (∀i d,i<n->Below w.heap.size w d->Calls prog f (#[(z i).val]++caps) d λe q=>e = .returned (.bool (bad i))/\Below d.heap.size d q)) :
  Calls prog 157 #[.slice a n c,.func (.func f) #[] caps] w λe q=>∃r:Int,e = .returned (.int .i64 r)/\decide (0<=r)=aw n bad/\Below w.heap.size w q:=by
 unfold maxLen at hc;go_enter func157,ntmps157;go_wp2_with fail
 go_loopw [8] (λi d=>∃k:Nat,k<=n/\i = .int .i64 k/\(∀j,j<k->bad j=false)/\Below w.heap.size w d) (λi _=>n-(intOf i).toNat)
 case atStart=>exact⟨0,Qxz _,rfl,λj A=>absurd A (Qzq _),Below.refl _ _⟩
 obtain⟨k,H,rfl,m,g⟩:=hrel;have D:=hid m;clear m;by_cases h:k<n;rotate_left
 .go_wp2_with fail;go_ret;have v:k=n:=by omega
  subst v;exact⟨_,rfl,by rw[ct D.out];decide,g⟩
 obtain⟨b,o,rfl,_,u,t,s,y⟩:=(x.below g) k h;clear x;go_wp2_with fail;refine(F.out k wr h g).mono ?_;rintro e d ⟨rfl,B⟩;have p:=g.trans (B.mono g.size);cases l:bad k
 .go_wp2_with fail;go_roundw
  case measure=>simp[intOf];omega
  refine⟨k+1,by omega,by go_num,?_,p⟩;intro j A;by_cases E:j=k
  .rw[E,l]
  exact D.out j (by omega)
 go_wp2_with fail;go_ret;exact⟨_,rfl,by rw[dt h l];simp,p⟩
theorem Ym(f:Nat)(caps:Array Value)(bad:Nat->Bool)(a:Option Addr)(n c:Nat)(w:World)(k:n<=c)(hc:c<=maxLen)(z:Nat->Int)(j:vm w a n z)
  (p:∀args w,(callFunc f args).run prog w = .ok (.enter f args) w)
  (l:Hid (∀i b,i<n->Below w.heap.size w b->Calls prog f (#[.int .i64 (z i)]++caps) b λe d=>e = .returned (.bool (bad i))/\Below b.heap.size b d)) :
  Calls prog 66 #[.slice a n c,.func (.func f) #[] caps] w λe d=>e = .returned (.bool (aw n bad))/\Below w.heap.size w d:=by
 have g:=hc;unfold maxLen at hc;go_enter func66,ntmps66;go_wp2_with fail;refine(acz f caps bad a n c w k g z j p l).mono ?_;rintro e b ⟨r,rfl,h,m⟩;have o:=hid h;clear h;go_wp2_with fail;go_ret;exact⟨by rw[<-o.out];rfl,m⟩
theorem acw(f:Nat)(caps:Array Value)(bad:Nat->Bool)(a:Option Addr)(n c:Nat)(w:World)(k:n<=c)(hc:c<=maxLen)(r:Nat->Rw)(j:Er w a n r)
  (p:∀args w,(callFunc f args).run prog w = .ok (.enter f args) w)
  (l:Hid (∀i b,i<n->Below w.heap.size w b->Calls prog f (#[.slice (r i).a (r i).n (r i).c]++caps) b λe d=>e = .returned (.bool (bad i))/\Below b.heap.size b d)) :
  Calls prog 67 #[.slice a n c,.func (.func f) #[] caps] w λe d=>e = .returned (.bool (aw n bad))/\Below w.heap.size w d:=by
 have g:=hc;unfold maxLen at hc;go_enter func67,ntmps67;go_wp2_with fail;refine(ac0 f caps bad a n c w k g r j p l).mono ?_;rintro e b ⟨r,rfl,h,m⟩;have o:=hid h;clear h;go_wp2_with fail;go_ret;exact⟨by rw[<-o.out];rfl,m⟩
theorem abe(f:Nat)(caps:Array Value)(bad:Nat->Bool)(a:Option Addr)(n c:Nat)(w:World)(k:n<=c)(hc:c<=maxLen)(z:Nat->Bin)(j:se w a n z)
  (p:∀args w,(callFunc f args).run prog w = .ok (.enter f args) w)
  (l:Hid (∀i b,i<n->Below w.heap.size w b->Calls prog f (#[(z i).val]++caps) b λe d=>e = .returned (.bool (bad i))/\Below b.heap.size b d)) :
  Calls prog 125 #[.slice a n c,.func (.func f) #[] caps] w λe d=>e = .returned (.bool (aw n bad))/\Below w.heap.size w d:=by
 have g:=hc;unfold maxLen at hc;go_enter func125,ntmps125;go_wp2_with fail;refine(acy f caps bad a n c w k g z j p l).mono ?_;rintro e b ⟨r,rfl,h,m⟩;have o:=hid h;clear h;go_wp2_with fail;go_ret;exact⟨by rw[<-o.out];rfl,m⟩
open Go.Shelf
theorem Zx{W a:World}(c:Below W.heap.size W a):(∀b o,b<W.heap.size->a.cell? ⟨b,o,none⟩=W.cell? ⟨b,o,none⟩)/\(∀b o,b<W.heap.size->a.frozen? ⟨b,o,none⟩=W.frozen? ⟨b,o,none⟩):=
 ⟨λb o h=>c.cell (p:=⟨b,o,none⟩) h,λb o h=>c.frozen (p:=⟨b,o,none⟩) h⟩
theorem yt(p:Pl)(w:World)(q:p.At w):
  Calls prog 61 #[p.val] w λe r=>e = .returned (.int .i64 (iy p))/\Below w.heap.size w r:=by
 obtain⟨leb,capb,bins,les,caps,sizes⟩:=q;have c:=capb;have b:=caps;unfold Pl.val;unfold maxLen at capb caps;have b1:=bins.below ((Below.refl w.heap.size w).alloc nlr (.cells #[.slice p.ab p.nb p.cb,.slice p.sa p.ns p.cs] 25));cases d:inB p.nb 1 6
 .go_enter func61,ntmps61;go_wp2_with(go_at_call 63;refine ah (ch _ _ _ _) ?_);go_ret;exact⟨by simp[iy,d],brf.alloc nlr _⟩
 cases f:inB p.ns 1 3
 .go_enter func61,ntmps61;go_wp2_with(go_at_call 63;refine ah (ch _ _ _ _) ?_);go_ret;exact⟨by simp[iy,f],brf.alloc nlr _⟩
 go_enter func61,ntmps61;go_wp2_with(go_at_call 63;refine ah (ch _ _ _ _) ?_);refine(abe 123 #[] (λi=>qf (p.zb i)) _ _ _ _ leb c p.zb b1 (enters_of func123 (by kernel_rfl) rfl) (λi k _ _=>by rw[Array.append_empty];exact Nr _ _)).mono ?_;rintro e k ⟨rfl,m⟩;obtain⟨hc,s⟩:=Zx m;have a:Below w.heap.size w k:=((Below.refl w.heap.size w).alloc nlr _).trans (m.mono (by simp));have s1:=sizes.below a;cases l:aw p.nb (λi=>qf (p.zb i))
 .go_wp2_with fail;refine(Ym 124 #[] (λi=>pv (p.zs i)) _ _ _ _ les b p.zs s1 (enters_of func124 (by kernel_rfl) rfl) (λi o _ _=>by rw[Array.append_empty];exact(Ns _ _).mono λ_ _ h=>⟨h.1,h.2▸Below.refl _ _⟩)).mono ?_;rintro e o ⟨rfl,n⟩;have g:=a.trans (n.mono a.size);cases j:aw p.ns (λi=>pv (p.zs i))
  .go_wp2_with fail;go_ret;exact⟨by simp[iy,d,f,l,j],g⟩
  go_wp2_with fail;go_ret;exact⟨by simp[iy,d,f,j],g⟩
 go_wp2_with fail;go_ret;exact⟨by simp[iy,d,f,l],a⟩
theorem Km(p:Pl)(w:World)(F:p.At w):
  Calls prog 9 #[p.val] w λe H=>e = .returned (.int .i64 (iy p))/\Below w.heap.size w H:=by
 obtain⟨ab,nb,cb,zb,sa,ns,cs,zs⟩:=p;obtain⟨leb,capb,bins,les,caps,sizes⟩:=F;dsimp only at leb capb bins les caps sizes;simp only[Pl.val];unfold maxLen at capb caps;cases x:inB nb 1 6
 .go_enter func9,ntmps9;go_wp2_with(go_at_call 23;refine ah (ce _ _ _ _) ?_);go_ret;exact⟨by simp[iy,x],brf.alloc nlr _⟩
 cases t:inB ns 1 3
 .go_enter func9,ntmps9;go_wp2_with(go_at_call 23;refine ah (ce _ _ _ _) ?_);go_ret;exact⟨by simp[iy,t],brf.alloc nlr _⟩
 have a:=qa2 x t;go_enter func9,ntmps9;go_wp2_with(go_at_call 23;refine ah (ce _ _ _ _) ?_);clear x t
 go_loopw [3] (λi v=>∃k:Nat,k<=nb/\i = .int .i64 k/\(∀j,j<k->qf (zb j)=false)/\Below (w.heap.size+1) (w.alloc (.cells #[.slice ab nb cb,.slice sa ns cs] 25)) v) (λi _=>nb-(intOf i).toNat)
 case atStart=>exact⟨0,Qxz _,rfl,λj m=>absurd m (Qzq _),Below.refl _ _⟩
 obtain⟨k,B,rfl,h,f⟩:=hrel;have q:=hid h;clear h;have c:Below w.heap.size w wr:=((Below.refl w.heap.size w).alloc nlr _).trans (f.mono (by omega));have hs:w.heap.size+1<=wr.heap.size:=by have:=f.size;simpa using this
 have E:wr.cell? ⟨w.heap.size,0,none⟩=some (.slice ab nb cb):=(f.cell (p:=⟨w.heap.size,0,none⟩) (by simp)).trans (by simp);have c1:wr.cell? ⟨w.heap.size,1,none⟩=some (.slice sa ns cs):=(f.cell (p:=⟨w.heap.size,1,none⟩) (by simp)).trans (by simp);by_cases g:k<nb
 .obtain⟨b,o,rfl,J,D,M,L,K⟩:=(bins.below c) k g;have l:=Dn (zb k);cases d:qf (zb k)
  .rw[d] at l;have G:inB (zb k).room 0 1000=true/\inB (zb k).high 0 200=true/\inB (zb k).low 0 (zb k).high=true:=by simpa[and_assoc] using l.symm
   obtain⟨r,y,z⟩:=G;clear l;go_wp2_with(go_at_call 23;refine ah (ce _ _ _ _) ?_);go_roundw
   case measure=>simp[intOf];omega
   refine⟨k+1,by omega,by go_num,?_,f.alloc (by simpa using hs) _⟩;intro j m;by_cases s:j=k
   .rw[s,d]
   exact q.out j (by omega)
  rw[d] at l;have n:Hid (aw nb (λi=>qf (zb i))=true):=dt g d;cases r:inB (zb k).room 0 1000
  .clear l;go_wp2_with(go_at_call 23;refine ah (ce _ _ _ _) ?_);go_ret;exact⟨by simp[iy,a.out.1,a.out.2,n.out],c.alloc (by omega) _⟩
  cases y:inB (zb k).high 0 200
  .clear l;go_wp2_with(go_at_call 23;refine ah (ce _ _ _ _) ?_);go_ret;exact⟨by simp[iy,a.out.1,a.out.2,n.out],c.alloc (by omega) _⟩
  have z:inB (zb k).low 0 (zb k).high=false:=by simpa[r,y] using l.symm
  clear l;go_wp2_with(go_at_call 23;refine ah (ce _ _ _ _) ?_);go_ret;exact⟨by simp[iy,a.out.1,a.out.2,n.out],c.alloc (by omega) _⟩
 go_wp2_with fail;have n:aw nb (λi=>qf (zb i))=false:=ct λj m=>q.out j (by omega);have A:=hid n;clear n g q bins
 go_loopw [5] (λi v=>∃k:Nat,k<=ns/\i = .int .i64 k/\(∀j,j<k->pv (zs j)=false)/\Below (w.heap.size+1) (w.alloc (.cells #[.slice ab nb cb,.slice sa ns cs] 25)) v) (λi _=>ns-(intOf i).toNat)
 case atStart=>exact⟨0,Qxz _,rfl,λj m=>absurd m (Qzq _),f⟩
 clear f c hs E c1;obtain⟨k,B,rfl,h,f⟩:=hrel;have q:=hid h;clear h;have c:Below w.heap.size w wr:=((Below.refl w.heap.size w).alloc nlr _).trans (f.mono (by omega));have c1:wr.cell? ⟨w.heap.size,1,none⟩=some (.slice sa ns cs):=(f.cell (p:=⟨w.heap.size,1,none⟩) (by simp)).trans (by simp);by_cases g:k<ns
 .obtain⟨b,o,rfl,J,D⟩:=(sizes.below c) k g;cases r:inB (zs k) 1 9
  .have u:Hid (aw ns (λi=>pv (zs i))=true):=dt g (by simp[pv,r]);go_wp2_with(go_at_call 23;refine ah (ce _ _ _ _) ?_);go_ret;exact⟨by simp[iy,a.out.1,a.out.2,u.out],c⟩
  have d:Hid (pv (zs k)=false):=by show pv (zs k)=false;simp[pv,r]
  go_wp2_with(go_at_call 23;refine ah (ce _ _ _ _) ?_);go_roundw
  case measure=>simp[intOf];omega
  refine⟨k+1,by omega,by go_num,?_,f⟩;intro j m;by_cases s:j=k
  .rw[s,d.out]
  exact q.out j (by omega)
 go_wp2_with fail;go_ret;have u:aw ns (λi=>pv (zs i))=false:=ct λj m=>q.out j (by omega);exact⟨by simp[iy,a.out.1,a.out.2,A.out,u],c⟩
theorem Ms(x:Int)(w:World):
  Calls prog 64 #[.int .i64 x] w λe a=>e = .returned (.bool (po x))/\a=w:=by
 unfold po;go_enter func64,ntmps64;go_wp2_with(go_at_call 63;refine ah (ch _ _ _ _) ?_)
 all_goals go_ret
 all_goals exact⟨rfl,rfl⟩
theorem Mt(B j:Nat)(p:Pl)(r:Rw)(w:World)(m:r.At w)(les:p.ns<=p.cs)(caps:p.cs<=maxLen)
  (c1:w.cell? ⟨B,1,none⟩=some (.slice p.sa p.ns p.cs)) (c2:w.cell? ⟨j,0,none⟩=some (.func (.func 64) #[] #[])) :
  Calls prog 65 #[.slice r.a r.n r.c,.pointer (some ⟨B,0,none⟩),.pointer (some ⟨j,0,none⟩)] w λe o=>e = .returned (.bool (n9 p r))/\Below w.heap.size w o:=by
 obtain⟨f,b,ints⟩:=m;have d:=b;unfold maxLen at b caps;cases g:((r.n:Int) !=(p.ns:Int))
 .go_enter func65,ntmps65;go_wp2_with fail;refine(Ym 64 #[] (λi=>po (r.z i)) _ _ _ _ f d r.z ints (enters_of func64 (by kernel_rfl) rfl) (λi k _ _=>by rw[Array.append_empty];exact(Ms _ _).mono λ_ _ h=>⟨h.1,h.2▸Below.refl _ _⟩)).mono ?_;rintro e k ⟨rfl,l⟩;go_wp2_with fail;go_ret;exact⟨by simp[n9,g],l⟩
 go_enter func65,ntmps65;go_wp2_with fail;go_ret;exact⟨by simp[n9,g],Below.refl _ _⟩
theorem xt(p:Pl)(s:Sh)(w:World)(f:p.At w)(hs:s.At w):
  Calls prog 32 #[p.val,s.val] w λe z=>e = .returned (.int .i64 (ev p s))/\Below w.heap.size w z:=by
 obtain⟨u,d,rows⟩:=hs;have j:=d;unfold maxLen at d;have leb:=f.leb;have capb:=f.capb;unfold maxLen at capb;have q:Below w.heap.size w (w.alloc (.cells #[.slice p.ab p.nb p.cb,.slice p.sa p.ns p.cs] 25)):=(Below.refl w.heap.size w).alloc nlr _;simp only[Pl.val,Sh.val];go_enter func32,ntmps32;go_wp2_with fail;refine(yt p _ (f.below q)).mono ?_;rintro e b ⟨rfl,k⟩;have g:=q.trans (k.mono (by simp));have x:w.heap.size<b.heap.size:=by have:=k.size;simp at this;omega
 have D:b.cell? ⟨w.heap.size,0,none⟩=some (.slice p.ab p.nb p.cb):=(k.cell (p:=⟨w.heap.size,0,none⟩) (by simp)).trans (by simp);have c1:b.cell? ⟨w.heap.size,1,none⟩=some (.slice p.sa p.ns p.cs):=(k.cell (p:=⟨w.heap.size,1,none⟩) (by simp)).trans (by simp);by_cases l:iy p=0;rotate_left
 .go_wp2_with fail;go_ret;exact⟨by simp[ev,l],g⟩
 cases t:((s.n:Int) !=(p.nb:Int));rotate_left
 .go_wp2_with fail;go_ret;exact⟨by simp[ev,l,t],g.alloc (by omega) _⟩
 go_wp2_with fail;have m:=g.alloc (by omega) (.cells #[Value.func (Fn.func 64) #[] #[]] 97);have c:=rows.below m;refine(acw 65 #[.pointer (some ⟨w.heap.size,0,none⟩),.pointer (some ⟨b.heap.size,0,none⟩)] (λi=>n9 p (s.r i)) _ _ _ _ u j s.r c (enters_of func65 (by kernel_rfl) rfl) ?_).mono ?_
 .intro i h hi a;obtain⟨_,_,_,_,_,y⟩:=(c.below a) i hi;have A:h.cell? ⟨w.heap.size,1,none⟩=some (.slice p.sa p.ns p.cs):=(a.cell (p:=⟨w.heap.size,1,none⟩) (by simp;omega)).trans (by simp[World.cell?_alloc_past,x,c1]);have B:h.cell? ⟨b.heap.size,0,none⟩=some (.func (.func 64) #[] #[]):=(a.cell (p:=⟨b.heap.size,0,none⟩) (by simp)).trans (by simp);exact Mt _ _ p (s.r i) h y f.les f.caps A B
 rintro e h ⟨rfl,a⟩;have o:=m.trans (a.mono (by simp;omega));cases v:aw s.n (λi=>n9 p (s.r i))
 .go_wp2_with fail;go_ret;exact⟨by simp[ev,l,t,v],o⟩
 go_wp2_with fail;go_ret;exact⟨by simp[ev,l,v],o⟩
theorem Jj(p:Pl)(s:Sh)(w:World)(u:p.At w)(hs:s.At w):
  Calls prog 49 #[p.val,s.val] w λe w'=>e = .returned (.int .i64 (ev p s))/\Below w.heap.size w w':=by
 obtain⟨sa,l,sc,t⟩:=s;obtain⟨ac,v,rows⟩:=hs;dsimp only at ac v rows;unfold maxLen at v;have leb:=u.leb;have capb:=u.capb;have les:=u.les;have caps:=u.caps;unfold maxLen at capb caps;have A:Below w.heap.size w (w.alloc (.cells #[.slice p.ab p.nb p.cb,.slice p.sa p.ns p.cs] 25)):=(Below.refl w.heap.size w).alloc nlr _;simp only[Pl.val,Sh.val];go_enter func49,ntmps49;go_wp2_with fail;refine(Km p _ (u.below A)).mono ?_;rintro e r ⟨rfl,D⟩;have c:=A.trans (D.mono (by simp));have V:w.heap.size<r.heap.size:=by have:=D.size;simp at this;omega
 have c0:r.cell? ⟨w.heap.size,0,none⟩=some (.slice p.ab p.nb p.cb):=(D.cell (p:=⟨w.heap.size,0,none⟩) (by simp)).trans (by simp);have c1:r.cell? ⟨w.heap.size,1,none⟩=some (.slice p.sa p.ns p.cs):=(D.cell (p:=⟨w.heap.size,1,none⟩) (by simp)).trans (by simp);have H:=rows.below c;clear D A rows u;by_cases G:iy p=0;rotate_left
 .go_wp2_with fail;go_ret;exact⟨by simp[ev,G],c⟩
 cases S:((l:Int) !=(p.nb:Int));rotate_left
 .go_wp2_with fail;go_ret;exact⟨by simp[ev,G,S],c⟩
 have d:=qa2 G S;go_wp2_with fail;clear G S
 go_loopw [6] (λi T=>∃k:Nat,k<=l/\i = .int .i64 k/\(∀j,j<k->n9 p (t j)=false)/\Below r.heap.size r T) (λi _=>l-(intOf i).toNat)
 case atStart=>exact⟨0,Qxz _,rfl,λj q=>absurd q (Qzq _),Below.refl _ _⟩
 obtain⟨k,hk,rfl,f,a⟩:=hrel;have X:=hid f;have d1:wr.cell? ⟨w.heap.size,1,none⟩=some (.slice p.sa p.ns p.cs):=(a.cell (p:=⟨w.heap.size,1,none⟩) V).trans c1;clear f;by_cases E:k<l;rotate_left
 .go_wp2_with fail;go_ret;have x:aw l (λi=>n9 p (t i))=false:=ct λj q=>X.out j (by omega);exact⟨by simp[ev,d.out.1,d.out.2,x],c.trans (a.mono c.size)⟩
 obtain⟨b,o,rfl,hb,z,W⟩:=H k E;obtain⟨J,m,ints⟩:=W;unfold maxLen at m;obtain⟨R,M⟩:∃R,R=t k:=⟨_,rfl⟩;rw[<-M] at z J m ints;have Q:=hid M;obtain⟨ra,y,rc,h⟩:=R;dsimp only at z J m ints;have z1:=(a.cell (p:=⟨b,o+k,none⟩) hb).trans z;have Z0:=hid z;clear z M;cases P:((y:Int) !=(p.ns:Int));rotate_left
 .go_wp2_with fail
  go_quiet (fail)
  go_wp2_with fail;go_ret;have x:aw l (λi=>n9 p (t i))=true:=dt E (by rw[<-Q.out];simp[n9,P]);exact⟨by simp[ev,d.out.1,d.out.2,x],below_drewN (c.trans (a.mono c.size)) _⟩
 have H2:=hid P;go_wp2_with fail
 go_quiet (fail)
 go_wp2_with fail;have K:=below_drewN a nq;clear P
 go_loopw [7] (λi T=>∃g:Nat,g<=y/\i = .int .i64 g/\(∀j,j<g->po (h j)=false)/\Below r.heap.size r T) (λi _=>y-(intOf i).toNat)
 case atStart=>exact⟨0,Qxz _,rfl,λj q=>absurd q (Qzq _),K⟩
 clear a K z1 d1;obtain⟨g,hg,rfl,f,a⟩:=hrel;have U:=hid f;clear f;have z2:=(a.cell (p:=⟨b,o+k,none⟩) hb).trans Z0.out;by_cases L:g<y;rotate_left
 .have B:Hid (n9 p (t k)=false):=by
   show n9 p (t k)=false;rw[<-Q.out];simp[n9,H2.out,ct (n:=y) (bad:=λi=>po (h i)) λj q=>U.out j (by omega)]
  go_wp2_with fail;go_roundw
  case measure=>simp[intOf];omega
  refine⟨k+1,by omega,by go_num,?_,a⟩;intro j q;by_cases F:j=k
  .rw[F,B.out]
  exact X.out j (by omega)
 obtain⟨b',o',rfl,ad,Y⟩:=ints g L;have y1:=(a.cell (p:=⟨b',o'+g,none⟩) ad).trans Y;clear Y;cases i1:inB (h g) 0 200
 .have B:Hid (po (h g)=true):=by show po (h g)=true;simp[po,i1]
  go_wp2_with(go_at_call 23;refine ah (ce _ _ _ _) ?_);go_ret;have x:aw l (λi=>n9 p (t i))=true:=dt E (by rw[<-Q.out];simp[n9,dt (bad:=λi=>po (h i)) L B.out]);exact⟨by simp[ev,d.out.1,d.out.2,x],c.trans (a.mono c.size)⟩
 have B:Hid (po (h g)=false):=by show po (h g)=false;simp[po,i1]
 go_wp2_with(go_at_call 23;refine ah (ce _ _ _ _) ?_);go_roundw
 case measure=>simp[intOf];omega
 refine⟨g+1,by omega,by go_num,?_,a⟩;intro j q;by_cases F:j=g
 .rw[F,B.out]
 exact U.out j (by omega)
theorem dk(n:Nat)(k:Int)(w:World)(a:n<=maxLen):
  Calls prog 71 #[.int .i64 n,.int .i64 k] w λe b=>e = .returned (.bool (inB k 0 ((n:Int)-1)))/\b=w:=by
 unfold maxLen at a;go_enter func71,ntmps71;go_wp2_with(go_at_call 63;refine ah (ch _ _ _ _) ?_);go_ret;exact⟨rfl,rfl⟩
theorem zi(p:Pl)(k:Int)(w:World)(c:p.nb<=p.cb)(a:p.cb<=maxLen):
  Calls prog 111 #[p.val,.int .i64 k] w λe b=>e = .returned (.bool (inB k 0 ((p.nb:Int)-1)))/\Below w.heap.size w b:=by
 unfold maxLen at a;simp only[Pl.val];go_enter func111,ntmps111;go_wp2_with(go_at_call 23;refine ah (ce _ _ _ _) ?_);go_ret;exact⟨rfl,brf.alloc nlr _⟩
theorem ua(p:Pl)(k:Int)(w:World)(c:p.ns<=p.cs)(a:p.cs<=maxLen):
  Calls prog 109 #[p.val,.int .i64 k] w λe b=>e = .returned (.bool (inB k 0 ((p.ns:Int)-1)))/\Below w.heap.size w b:=by
 unfold maxLen at a;simp only[Pl.val];go_enter func109,ntmps109;go_wp2_with(go_at_call 23;refine ah (ce _ _ _ _) ?_);go_ret;exact⟨rfl,brf.alloc nlr _⟩
theorem Tt(p:Pl)(s:Sh)(bin:Nat)(w:World)(K:p.At w)(hs:s.At w)(T:um p s)(c:bin<s.n):
  Calls prog 155 #[p.val,s.val,.int .i64 bin] w λe L=>e = .returned (.int .i64 (ey (s.r bin).z p.zs p.ns))/\Below w.heap.size w L:=by
 obtain⟨pl,V,t,m⟩:=T;have v:=t bin c;have a:Hid (∀j,j<p.ns->(0<=(s.r bin).z j/\(s.r bin).z j<=200)/\1<=p.zs j/\p.zs j<=9):=λj E=>⟨m bin c j E,pl.sizes j E⟩;have B:=pl.ns3;obtain⟨ab,nb,cb,zb,sa,ns,cs,zs⟩:=p;obtain⟨_,_,_,les,caps,sizes⟩:=K;obtain⟨s0,sn,sc,J⟩:=s;obtain⟨F,l,rows⟩:=hs;dsimp only at v a les caps sizes F l rows c B;obtain⟨b,o,rfl,P,A,D⟩:=rows bin c;obtain⟨x,d,ints⟩:=D
 generalize hR:J bin=R at A x d ints v a
 obtain⟨ra,h,rc,q⟩:=R;dsimp only at A x d ints v a;subst v;have Q:=hid hR;clear hR t m pl V rows;unfold maxLen at l d caps;simp only[Pl.val,Sh.val];go_enter func155,ntmps155;go_wp2_with fail
 go_loopw [7,8] (λu i M=>∃k:Nat,k<=h/\i = .int .i64 k/\u = .int .i64 (ey q zs k)/\Below (w.heap.size+1) (w.alloc (.cells #[.slice ab nb cb,.slice sa h cs] 25)) M) (λ_ i _=>h-(intOf i).toNat)
 case atStart=>exact⟨0,Qxz _,rfl,rfl,Below.refl _ _⟩
 obtain⟨k,S,rfl,rfl,y⟩:=hrel;have f:Below w.heap.size w wr:=((Below.refl w.heap.size w).alloc nlr _).trans (y.mono (by omega));have c1:wr.cell? ⟨w.heap.size,1,none⟩=some (.slice sa h cs):=(y.cell (p:=⟨w.heap.size,1,none⟩) (by simp)).trans (by simp);have z1:=(f.cell (p:=⟨b,o+bin,none⟩) P).trans A;by_cases g:k<h
 .obtain⟨b1,o1,rfl,X,y0⟩:=(ints.below f) k g;obtain⟨b2,o2,rfl,Y,x0⟩:=(sizes.below f) k g;have W:=wn a.out k S;have m2:=Da (a.out k g).1 (a.out k g).2;have H:Hid (ey q zs (k+1)=ey q zs k+q k*zs k):=rfl;have m3:(0:Int)<=(bin:Int):=by omega
  generalize ey q zs k=U at W H ⊢
  go_wp2_with fail
  go_quiet (fail)
  go_wp2_with fail;go_roundw
  case rel=>exact⟨k+1,by omega,by go_num,by rw[H.out],below_drewN y _⟩
  case measure=>simp[intOf];omega
 go_wp2_with fail;go_ret;have G:k=h:=by omega
 subst G;exact⟨by rw[Q.out];rfl,f⟩
theorem V4(p:Pl)(s:Sh)(good:Nat)(w:World)(hs:s.At w)(J:um p s)(t:good<p.ns):
  Calls prog 112 #[s.val,.int .i64 good] w λe K=>e = .returned (.int .i64 (cu (λi=>(s.r i).z good) s.n))/\Below w.heap.size w K:=by
 obtain⟨pl,E,f,h⟩:=J;have d:Hid (∀j,j<s.n->0<=(s.r j).z good/\(s.r j).z good<=200):=λj v=>h j v good t;have G:Hid (∀j,j<s.n->good<(s.r j).n):=λj v=>by rw[f j v];exact t
 have F:=pl.nb6;rw[<-E] at F;clear E f h pl t;obtain⟨s0,l,V,a⟩:=s;obtain⟨x,c,rows⟩:=hs;dsimp only at d G x c rows F;unfold maxLen at c;simp only[Sh.val];go_enter func112,ntmps112;go_wp2_with fail
 go_loopw [5,6] (λu i L=>∃k:Nat,k<=l/\i = .int .i64 k/\u = .int .i64 (cu (λi=>(a i).z good) k)/\Below w.heap.size w L) (λ_ i _=>l-(intOf i).toNat)
 case atStart=>exact⟨0,Qxz _,rfl,rfl,Below.refl _ _⟩
 obtain⟨k,M,rfl,rfl,m⟩:=hrel;by_cases g:k<l;rotate_left
 .go_wp2_with fail;go_ret;have B:k=l:=by omega
  subst B;exact⟨rfl,m⟩
 obtain⟨b,o,rfl,hb,Q,D⟩:=(rows.below m) k g;obtain⟨T,q,ints⟩:=D;have y:=G.out k g;obtain⟨b1,Y,A,S,y0⟩:=ints good y;rw[A] at Q;clear A;have P:=De (z:=λi=>(a i).z good) d.out k M;have W:=d.out k g;have H:Hid (cu (λi=>(a i).z good) (k+1)=cu (λi=>(a i).z good) k+(a k).z good):=rfl;have X:(0:Int)<=(good:Int):=by omega
 generalize cu (λi=>(a i).z good) k=U at P H ⊢
 unfold maxLen at q;go_wp2_with fail;go_roundw
 case rel=>exact⟨k+1,by omega,by go_num,by rw[H.out],m⟩
 case measure=>simp[intOf];omega
theorem Yj(p:Pl)(s:Sh)(bin:Int)(w:World)(J:p.At w)(hs:s.At w):
  Calls prog 135 #[p.val,s.val,.int .i64 bin] w λe w'=>e = .returned (.tuple #[.int .i64 (Gv p s bin),.int .i64 (ui p s bin)])/\Below w.heap.size w w':=by
 have g:Below w.heap.size w (w.alloc (.cells #[.slice p.ab p.nb p.cb,.slice p.sa p.ns p.cs] 25)):=(Below.refl w.heap.size w).alloc nlr _;simp only[Pl.val,Sh.val];have T:=hs.le;have h:=hs.cap;have F:=h;unfold maxLen at F;have E:s.n<=maxLen:=Qzx T h;go_enter func135,ntmps135;go_wp2_with fail;refine(xt p s _ (J.below g) (hs.below g)).mono ?_;rintro e A ⟨rfl,a⟩;have c:=g.trans (a.mono (by simp));have ai:w.heap.size<A.heap.size:=by have:=a.size;simp at this;omega
 have c1:A.cell? ⟨w.heap.size,1,none⟩=some (.slice p.sa p.ns p.cs):=(a.cell (p:=⟨w.heap.size,1,none⟩) (by simp)).trans (by simp);by_cases q:ev p s=0;rotate_left
 .go_wp2_with fail
  go_ret2
  exact⟨by simp[Gv,ui,q],c⟩
 cases t:inB bin 0 ((s.n:Int)-1)
 .go_wp2_with(go_at_call 71;refine ah (dk _ _ _ E) ?_)
  go_ret2
  exact⟨by simp[Gv,ui,q,t],c⟩
 have H0:=hid q;have H1:=hid t;obtain⟨m,rfl⟩:=Qzz (aq t).1;have G:m<s.n:=by have:=(aq t).2;omega
 have V:Hid (Gv p s (m:Int)=ey (s.r m).z p.zs p.ns/\ui p s (m:Int)=0):=by
  show _/\_;simp[Gv,ui,q,t]
 obtain⟨pl,hn,y,v⟩:=(uq q).2;have H:=y m G;have d:Hid (∀j,j<p.ns->(0<=(s.r m).z j/\(s.r m).z j<=200)/\1<=p.zs j/\p.zs j<=9):=λj Q=>⟨v m G j Q,pl.sizes j Q⟩;have ag:=pl.ns3;have L:=J.below c;have K:=hs.below c;clear J hs a g y v pl hn;obtain⟨ab,nb,cb,zb,sa,ns,cs,zs⟩:=p;obtain⟨_,_,_,les,caps,sizes⟩:=L;obtain⟨s0,sn,sc,sr⟩:=s;obtain⟨_,_,rows⟩:=K;dsimp only at *;obtain⟨b,o,rfl,hb,S,M⟩:=rows m G;obtain⟨D,f,ints⟩:=M
 generalize hR:sr m=R at S D f ints H d
 obtain⟨ra,B,rc,x⟩:=R;dsimp only at S D f ints H d;subst H;have X:=hid hR;clear hR rows;unfold maxLen at f caps;have m3:(0:Int)<=(m:Int):=by omega
 go_wp2_with(go_at_call 71;refine ah (dk _ _ _ E) ?_);clear q t
 go_loopw [9,28] (λu i wk=>∃k:Nat,k<=B/\i = .int .i64 k/\u = .int .i64 (ey x zs k)/\Below A.heap.size A wk) (λ_ i _=>B-(intOf i).toNat)
 case atStart=>exact⟨0,Qxz _,rfl,rfl,Below.refl _ _⟩
 obtain⟨k,Y,rfl,rfl,a⟩:=hrel;obtain⟨hc,hf⟩:=Zx a;by_cases l:k<B
 .obtain⟨b1,o1,rfl,ak,y0⟩:=(ints.below a) k l;obtain⟨b2,o2,rfl,aj,x0⟩:=(sizes.below a) k l;have m1:=wn d.out k Y;have m2:=Da (d.out k l).1 (d.out k l).2;have W:Hid (ey x zs (k+1)=ey x zs k+x k*zs k):=rfl
  generalize ey x zs k=U at m1 W ⊢
  go_wp2_with fail;go_roundw
  case rel=>exact⟨k+1,by omega,by go_num,by rw[W.out],a⟩
  case measure=>simp[intOf];omega
 go_wp2_with fail
 go_ret2
 have P:k=B:=by omega
 subst P;exact⟨by rw[V.out.1,V.out.2,X.out];rfl,c.trans (a.mono c.size)⟩
theorem aaf(p:Pl)(s:Sh)(good:Int)(w:World)(x:p.At w)(hs:s.At w):
  Calls prog 81 #[p.val,s.val,.int .i64 good] w λe T=>e = .returned (.tuple #[.int .i64 (Ks p s good),.int .i64 (Gt p s good)])/\Below w.heap.size w T:=by
 have d:Below w.heap.size w (w.alloc (.cells #[.slice p.ab p.nb p.cb,.slice p.sa p.ns p.cs] 25)):=(Below.refl w.heap.size w).alloc nlr _;simp only[Pl.val,Sh.val];have ae:=hs.le;have D:=hs.cap;unfold maxLen at D;have les:=x.les;have v:=x.caps;have B:p.ns<=maxLen:=Qzx les v;go_enter func81,ntmps81;go_wp2_with fail;refine(xt p s _ (x.below d) (hs.below d)).mono ?_;rintro e G ⟨rfl,c⟩;have a:=d.trans (c.mono (by simp));have c1:G.cell? ⟨w.heap.size,1,none⟩=some (.slice p.sa p.ns p.cs):=(c.cell (p:=⟨w.heap.size,1,none⟩) (by simp)).trans (by simp);by_cases l:ev p s=0;rotate_left
 .go_wp2_with fail
  go_ret2
  exact⟨by simp[Ks,Gt,l],a⟩
 cases g:inB good 0 ((p.ns:Int)-1)
 .go_wp2_with(go_at_call 71;refine ah (dk _ _ _ B) ?_)
  go_ret2
  exact⟨by simp[Ks,Gt,l,g],a⟩
 obtain⟨m,rfl⟩:=Qzz (aq g).1;have Q:m<p.ns:=by have:=(aq g).2;omega
 have K:Hid (Ks p s (m:Int)=cu (λi=>(s.r i).z m) s.n/\Gt p s (m:Int)=0):=by
  show _/\_;simp[Ks,Gt,l,g]
 obtain⟨pl,P,h,t⟩:=(uq l).2;have hl:Hid (∀j,j<s.n->m<(s.r j).n):=λj F=>by rw[h j F];exact Q
 have A:Hid (∀j,j<s.n->0<=(s.r j).z m/\(s.r j).z m<=200):=λj F=>t j F m Q;have W:=pl.nb6;rw[<-P] at W;have rows:=(hs.below a).rows;clear x hs c d h t pl P;have m3:(0:Int)<=(m:Int):=by omega
 go_wp2_with(go_at_call 71;refine ah (dk _ _ _ B) ?_);clear l g c1;obtain⟨s0,y,sc,f⟩:=s;dsimp only at *
 go_loopw [9,26] (λu i V=>∃k:Nat,k<=y/\i = .int .i64 k/\u = .int .i64 (cu (λi=>(f i).z m) k)/\Below G.heap.size G V) (λ_ i _=>y-(intOf i).toNat)
 case atStart=>exact⟨0,Qxz _,rfl,rfl,Below.refl _ _⟩
 obtain⟨k,X,rfl,rfl,c⟩:=hrel;by_cases q:k<y
 .obtain⟨b,o,rfl,hb,z0,L⟩:=(rows.below c) k q;obtain⟨af,E,ints⟩:=L;have H:=hl.out k q;obtain⟨b1,o1,J,ad,y0⟩:=ints m H;rw[J] at z0;clear J;have Y:=De (z:=λi=>(f i).z m) A.out k X;have m2:=A.out k q;have S:Hid (cu (λi=>(f i).z m) (k+1)=cu (λi=>(f i).z m) k+(f k).z m):=rfl
  generalize cu (λi=>(f i).z m) k=U at Y S ⊢
  unfold maxLen at E;go_wp2_with fail;go_roundw
  case rel=>exact⟨k+1,by omega,by go_num,by rw[S.out],c⟩
  case measure=>simp[intOf];omega
 go_wp2_with fail
 go_ret2
 have M:k=y:=by omega
 subst M;exact⟨by rw[K.out.1,K.out.2];rfl,a.trans (c.mono a.size)⟩
def Blk(w:World)(g:Nat)(e:TypeId)(n:Nat)(f:Nat->Value):Prop :=
 ∃cur,w.heap[g]?=some (.cells cur e (0,0))/\n<=cur.size/\∀j,j<n->cur[j]?=some (f j)
theorem Blk.lt{w:World}{g:Nat}{e:TypeId}{n:Nat}{f:Nat->Value}(h:Blk w g e n f):g<w.heap.size:=by
 obtain⟨cur,hc,_⟩:=h;exact(Qkq hc).1
theorem Blk.cell{w:World}{g:Nat}{e:TypeId}{n:Nat}{f:Nat->Value}(h:Blk w g e n f){j:Nat}(a:j<n):w.cell? ⟨g,j,none⟩=some (f j):=by
 obtain⟨cur,hc,_,b⟩:=h;simp[World.cell?,hc,b j a]
theorem Blk.frozen{w:World}{g:Nat}{e:TypeId}{n:Nat}{f:Nat->Value}(h:Blk w g e n f)(j:Nat):w.frozen? ⟨g,j,none⟩=false:=by
 obtain⟨cur,hc,_,a⟩:=h;simp[World.frozen?,hc]
theorem Blk.same{w a:World}{g:Nat}{e:TypeId}{n:Nat}{f:Nat->Value}(h:Blk w g e n f)(hs:a.heap[g]?=w.heap[g]?):Blk a g e n f:=by
 obtain⟨cur,hc,b⟩:=h;exact⟨cur,hs.trans hc,b⟩
theorem Blk.below{w a:World}{g:Nat}{e:TypeId}{n:Nat}{f:Nat->Value}(h:Blk w g e n f)(b:Below w.heap.size w a):Blk a g e n f:=h.same (b.block g h.lt)
theorem Blk.grown{w b:World}{g:Nat}{e:TypeId}{n:Nat}{f:Nat->Value}{row:Option Nat}(h:Blk w g e n f)(c:w.grownBy b row)(a:some g≠row):Blk b g e n f:=h.same (c.block g h.lt a)
theorem Blk.congr{w:World}{g:Nat}{e:TypeId}{n:Nat}{f f':Nat->Value}(h:Blk w g e n f)(d:∀j,j<n->f j=f' j):Blk w g e n f':=by
 obtain⟨cur,hc,c,b⟩:=h;exact⟨cur,hc,c,λj a=>by rw[b j a,d j a]⟩
theorem Blk.other{w:World}{g:Nat}{e:TypeId}{n:Nat}{f:Nat->Value}(h:Blk w g e n f){a:Addr}(b:g≠a.block)(v:Value):Blk (w.setCell a v) g e n f:=h.same (Below.heap_setCell w a v g b)
theorem Blk.set{w:World}{g:Nat}{e:TypeId}{n:Nat}{f:Nat->Value}(h:Blk w g e n f)(j:Nat)(v:Value):Blk (w.setCell ⟨g,j,none⟩ v) g e n (λi=>if i=j then v else f i):=by
 obtain⟨cur,hc,c,b⟩:=h;refine⟨cur.setIfInBounds j v,?_,by simpa using c,?_⟩
 .simp[World.setCell,Array.getElem?_modify,hc]
 intro i hi;rw[Array.getElem?_setIfInBounds];by_cases a:i=j
 .subst a;simp;omega
 rw[if_neg (λe=>a e.symm),b i hi];simp[a]
theorem Blk.new(w:World)(cur:Array Value)(e:TypeId):Blk (w.alloc (.cells cur e)) w.heap.size e cur.size (λj=>cur.getD j default):=by
 refine⟨cur,heap_alloc_new w _,Nat.le_refl _,λj a => ?_⟩;simp[Array.getD,a]
theorem Blk.ofOwns{w:World}{base:Nat}{e:TypeId}{size:Nat}{v:Value}{n:Nat}{a:List Value}(h:w.ownsRow base e size v n a)(f:v ≠ .slice none 0 0):
  ∃g c,v = .slice (some ⟨g,0,none⟩) n c/\n<=c/\c<=maxLen/\base<=g/\Blk w g e (n*size) (λj=>a.getD j default):=by
 obtain⟨p,h|⟨g,cap,cur,rfl,i,m,b,o,l,d⟩⟩:=h
 .exact absurd h.1 f
 refine⟨g,cap,rfl,b,o,i,cur,m,by rw[l];exact Nat.mul_le_mul_right _ b,λj k => ?_⟩;have:a[j]?=cur[j]?:=by
  rw[<-d,List.getElem?_take,if_pos k];simp
 rw[<-this,List.getElem?_eq_getElem (by omega)];simp[List.getD,List.getElem?_eq_getElem (show j<a.length by omega)]
theorem Blk.mk'{w:World}{g:Nat}{cur:Array Value}{e:TypeId}{f:Nat->Value}(a:g=w.heap.size)(b:f=λj=>cur.getD j default):Blk (w.alloc (.cells cur e)) g e cur.size f:=by
 subst a b;exact Blk.new w cur e
theorem Blk.alloc{w:World}{g:Nat}{e:TypeId}{n:Nat}{f:Nat->Value}(h:Blk w g e n f)(o:Obj):Blk (w.alloc o) g e n f:=h.below (brf.alloc nlr o)
theorem Blk.ints{w:World}{g:Nat}{e:TypeId}{n:Nat}{z:Nat->Int}(h:Blk w g e n (λj => .int .i64 (z j))):vm w (some ⟨g,0,none⟩) n z:=λi hi =>
 ⟨g,0,rfl,h.lt,by rw[Nat.zero_add];exact h.cell hi⟩
theorem Blk.k{w:World}{g:Nat}{e:TypeId}{n:Nat}{f:Nat->Value}(h:Blk w g e n f)(j:Nat)(a:j<n:=by decide):w.cell? ⟨g,j,none⟩=some (f j):=h.cell a
theorem z7{w:World}{g:Nat}{e:TypeId}{f:Nat->Value}(h:Blk w g e 7 f):g<w.heap.size/\w.frozen? ⟨g,0,none⟩=false/\w.cell? ⟨g,0,none⟩=some (f 0)/\w.frozen? ⟨g,1,none⟩=false/\w.cell? ⟨g,1,none⟩=some (f 1)/\w.frozen? ⟨g,2,none⟩=false/\w.cell? ⟨g,2,none⟩=some (f 2)/\w.frozen? ⟨g,3,none⟩=false/\w.cell? ⟨g,3,none⟩=some (f 3)/\w.frozen? ⟨g,4,none⟩=false/\w.cell? ⟨g,4,none⟩=some (f 4)/\w.frozen? ⟨g,5,none⟩=false/\w.cell? ⟨g,5,none⟩=some (f 5)/\w.frozen? ⟨g,6,none⟩=false/\w.cell? ⟨g,6,none⟩=some (f 6):=⟨h.lt,h.frozen 0,h.cell (j:=0) (by decide),h.frozen 1,h.cell (j:=1) (by decide),h.frozen 2,h.cell (j:=2) (by decide),h.frozen 3,h.cell (j:=3) (by decide),h.frozen 4,h.cell (j:=4) (by decide),h.frozen 5,h.cell (j:=5) (by decide),h.frozen 6,h.cell (j:=6) (by decide)⟩
structure Hd where
 o:Int
 l:Int
 b:Int
 n:Int
def Hd.val(x:Hd):Value := .agg #[.int .i64 x.o,.int .i64 x.l,.int .i64 x.b,.int .i64 x.n]
def dg(x:Hd):List Value:=[.int .i64 x.o,.int .i64 x.l,.int .i64 x.b,.int .i64 x.n]
def gx(x:Hd):Bool:=inB x.o 0 3&&inB x.l 0 2&&inB x.b 0 5&&inB x.n 1 200
def ba(x:Hd):Int:=(x.o*3+x.l)*6+x.b
def Cz(a b:Int):Int:=if a<b then -1 else if b<a then 1 else 0
def orI(a b c:Int):Int:=if a=0 then(if b=0 then c else b) else a
def l9(x y:Hd):Int:=orI (Cz x.o y.o) (Cz x.l y.l) (Cz x.b y.b)
theorem cx{x:Hd}(h:gx x=true):(0<=x.o/\x.o<=3)/\(0<=x.l/\x.l<=2)/\(0<=x.b/\x.b<=5)/\1<=x.n/\x.n<=200:=by
 simp only[gx,Xxx] at h;exact⟨aq h.1.1.1,aq h.1.1.2,aq h.1.2,aq h.2⟩
theorem Ak{x y:Hd}(hx:gx x=true)(c:gx y=true):(0<=l9 x y↔ba y<=ba x)/\(l9 x y=0↔ba x=ba y):=by
 have a:=cx hx;have b:=cx c;unfold l9 orI Cz ba;constructor
 all_goals(repeat' split)<;>omega
theorem Qn{x y:Hd}:l9 x y=0↔x.o=y.o/\x.l=y.l/\x.b=y.b:=by
 unfold l9 orI Cz
 (repeat' split)<;>omega
theorem Nf{x y:Hd}:l9 x y<0↔x.o<y.o\/(x.o=y.o/\(x.l<y.l\/(x.l=y.l/\x.b<y.b))):=by
 unfold l9 orI Cz
 (repeat' split)<;>omega
theorem Oa{x y z:Hd}(b:l9 x y<0)(a:l9 y z<0):l9 x z<0:=by
 rw[Nf] at *;omega
def cz(z:Nat->Hd)(i:Nat):Bool := !gx (z i)||(decide (0<i)&&decide (0<=l9 (z (i-1)) (z i)))
def xz(z:Nat->Hd)(i:Nat):Bool := !gx (z i)||(decide (0<i)&&decide (ba (z i)<=ba (z (i-1))))
theorem Qh(z:Nat->Hd):∀n,aw n (xz z)=aw n (cz z)
 | 0=>rfl
 | n+1=>by
  rw[Dl,Dl,Qh z n];cases h:aw n (cz z);rotate_left
  .simp
  simp only[Bool.false_or];unfold xz cz;cases d:gx (z n)
  .simp
  by_cases b:0<n
  .have c:=di h (n-1) (by omega);have a:gx (z (n-1))=true:=by
    cases e:gx (z (n-1))
    .simp[cz,e] at c
    rfl
   have:=(Ak a d).1;simp only[b,decide_true,Bool.true_and,Bool.not_true,Bool.false_or];rw[Bool.eq_iff_iff];simp only[decide_eq_true_eq];exact this.symm
  simp[b]
def gw(n:Nat)(z:Nat->Hd):Int:=if aw n (cz z) then 1 else 0
theorem ca{n:Nat}{z:Nat->Hd}(h:aw n (cz z)=false):∀i,i<n->gx (z i)=true:=by
 intro i hi;have:=di h i hi;cases a:gx (z i)
 .simp[cz,a] at this
 rfl
theorem Ae{n:Nat}{z:Nat->Hd}(h:aw n (cz z)=false):∀i,i+1<n->ba (z i)<ba (z (i+1)):=by
 intro i hi;have b:=di h (i+1) hi;have c:=ca h i (by omega);have a:=ca h (i+1) hi;have:=(Ak c a).1;simp only[cz,a,Bool.not_true,Bool.false_or,Nat.succ_pos,decide_true,Bool.true_and,Nat.add_sub_cancel,decide_eq_false_iff_not] at b;rw[this] at b;omega
theorem mp{n:Nat}{z:Nat->Hd}(h:aw n (cz z)=false):∀i j,i<j->j<n->ba (z i)<ba (z j):=by
 intro i j c b
 induction j with
 | zero=>omega
 | succ j ih =>
  have s:=Ae h j b;by_cases a:i=j
  .subst a;exact s
  have:=ih (by omega) (by omega);omega
theorem Xs{n:Nat}{z:Nat->Hd}(h:aw n (cz z)=false):∀i,i<n->(i:Int)<=ba (z i)/\ba (z i)<=71:=by
 intro i hi;have f:=cx (ca h i hi);constructor
 .induction i with
  | zero=>unfold ba;omega
  | succ i ih =>
   have:=Ae h i hi;have:=ih (by omega) (cx (ca h i (by omega)));omega
 unfold ba;omega
theorem wh{n:Nat}{z:Nat->Hd}(h:aw n (cz z)=false):n<=72:=by
 by_cases a:n=0
 .omega
 have:=Xs h (n-1) (by omega);omega
def jb(w:World)(a:Option Addr)(n:Nat)(z:Nat->Hd):Prop :=
 ∀i,i<n->∃b o,a=some ⟨b,o,none⟩/\b<w.heap.size/\w.cell? ⟨b,o+i*4,none⟩=some (.int .i64 (z i).o) /\
  w.cell? ⟨b,o+i*4+1,none⟩=some (.int .i64 (z i).l)/\w.cell? ⟨b,o+i*4+2,none⟩=some (.int .i64 (z i).b) /\
  w.cell? ⟨b,o+i*4+3,none⟩=some (.int .i64 (z i).n)
theorem jb.below{w e:World}{a:Option Addr}{n:Nat}{z:Nat->Hd}(h:jb w a n z)(c:Below w.heap.size w e):jb e a n z:=by
 intro i hi;obtain⟨b,o,k,d,j,g,l,f⟩:=h i hi;exact⟨b,o,k,Xzx d c.size,(c.cell (p:=⟨b,o+i*4,none⟩) d).trans j,(c.cell (p:=⟨b,o+i*4+1,none⟩) d).trans g,
  (c.cell (p:=⟨b,o+i*4+2,none⟩) d).trans l,(c.cell (p:=⟨b,o+i*4+3,none⟩) d).trans f⟩
structure Hs where
 a:Option Addr
 n:Nat
 c:Nat
 z:Nat->Hd
def Hs.val(s:Hs):Value := .slice s.a s.n s.c
structure Hs.At(w:World)(s:Hs):Prop where
 le:s.n<=s.c
 cap:s.c<=maxLen
 hds:jb w s.a s.n s.z
 nilc:s.a=none->s.c=0
theorem Hs.At.below{w a:World}{s:Hs}(h:s.At w)(b:Below w.heap.size w a):s.At a:=⟨h.le,h.cap,h.hds.below b,h.nilc⟩
def Ie(ops:Array Oper):List (Bool × Nat)->Array Bool->Bool
 | [],listed=>Region.ready .any ops listed==[]
 | (h,i) :: r,listed=>(if h then(Region.ready .any ops listed).contains i&&Region.free .any ops listed i else Region.ready .any ops listed==[i])&&Ie ops r (listed.setIfInBounds i true)
theorem Oper.wp_then{P:Program}{o:Oper}{a:Act}{w:World}{K N:Act->World->Prop}{Q:Exit->Act->World->Prop}(h:o.wp P a w K (Exit.then N Q)):o.wp P a w K Q:=by
 unfold Oper.wp at *
 generalize (execOp a.eval o).run P w=r at *
 cases r with
 | ok n w' =>
  cases n<;>simp only[Oper.upon] at h ⊢ <;>
   first
    | exact h
    | exact Calls.mono h (λe c b=>by cases e<;>exact b)
    | exact Rows.mono h (λ_ _ b=>b)
 | halt x w'=>cases x<;>simp only[Oper.upon] at h ⊢<;>exact h
def yi(P:Program)(ops:Array Oper)(Q:Exit->Act->World->Prop)(S:World->Prop):List (Bool × Nat)->Act->World->Prop
 | [],a,w=>Q .normal a w
 | (false,i) :: r,a,w=>wpOp P ops Q i (λa' w'=>S w'/\yi P ops Q S r a' w') a w
 | (true,i) :: r,a,w=>∃o v,ops[i]?=some o/\YieldsIf P ops S o v a/\yi P ops Q S r (a.put o.dst v) w
theorem ur{P:Program}{d:Array Oper}{Q:Exit->Act->World->Prop}{S:World->Prop}(hs:Region.noSelect d=true)
  (k:∀c a f w,Q (.panic c) a w->Q (.panic c) f w):∀(e:List (Bool × Nat)) (b:Array Bool) (a:Act) (w:World),
   Ie d e b=true->S w->yi P d Q S e a w->wpAnyH P .any d Q S e.length b a w
 | [],b,a,w,hB,_,h=>wpAnyH_done (by simpa[Ie] using hB) h _
 | (false,i) :: r,b,a,w,hB,hS,h=>by
  simp only[Ie,Bool.false_eq_true,if_false,Xxx,beq_iff_eq] at hB;refine wpAnyH_all hB.1 (by simp) λj l => ?_;rw[List.mem_singleton] at l;subst l;exact wpOp_mono (λf s g=>⟨g.1,ur hs k r _ f s hB.2 g.1 g.2⟩) h
 | (true,i) :: r,b,a,w,hB,hS,h=>by
  simp only[Ie,if_true,Xxx] at hB;obtain⟨o,v,n,m,p⟩:=h;exact wpAnyH_take n hs hB.1.2 hB.1.1 (λc a w q=>k _ _ _ _ q) m hS (ur hs k r _ _ w hB.2 hS p)
theorem pb{P:Program}{b:Array Oper}{Q:Exit->Act->World->Prop}{id:Nat}{a:Act}{w:World}(S:World->Prop)(d:List (Bool × Nat))
  (e:P.follows .mixedOrders=true) (hs:Region.noSelect b=true) (f:Ie b d (Array.replicate b.size false)=true) (g:d.length=b.size)
  (i:S w.drew) (h:yi P b (NoPanic Q) S d a w.drew):(Code.region id b true).wp P Q a w:=by
 refine wp_region_noPanic (wp_region_held (S:=S) e ?_);have:=ur (Q:=NoPanic Q) hs (λc a j w h=>(h:False).elim) d (Array.replicate b.size false) a w.drew f i h;rw[g] at this;exact this
theorem db{P:Program}{l:List Oper}{Q:Exit->Act->World->Prop}{S:World->Prop}{r:List (Bool × Nat)}(k:Nat){a:Act}{w:World}(f:k<l.length)
  (h:wpList P l.toArray (Exit.then (λe d=>S d/\yi P l.toArray Q S r e d) Q) ((l.drop k).take 1) a w):yi P l.toArray Q S ((false,k) :: r) a w:=by
 have i:l.toArray[k]?=some l[k]:=by simp[f]
 have c:(l.drop k).take 1=[l[k]]:=by
  rw[List.drop_eq_getElem_cons f]
  rfl
 rw[c] at h;show wpOp P l.toArray Q k _ a w;unfold wpOp;simp only[i];unfold wpList at h
 split
 .rename_i b;rw[if_pos b] at h;rcases h with h|⟨c,j⟩
  .exact .inl (Oper.wp_then (Oper.wp_mono (λe d g=>g) h))
  exact .inr ⟨c,j⟩
 rename_i b;rw[if_neg b] at h;exact h
def yh(o:Oper):Bool:=match o.op with
 | .move _=>true
 | .assign _=>true
 | .slice ..=>true
 | .load ..=>true
 | .fieldAddr ..=>true
 | .indexAddr ..=>true
 | .binOp ..=>true
 | .nilCheck _=>true
 | _=>false
theorem Xw{P:Program}{s:Sem Value}{w b:World}{n:Next}(h:(do let x <-s;pure (Next.value x):Sem Next).run P w = .ok n b):∃v,n = .value v:=by
 simp only[Sem.run_bind,Sem.run_pure] at h;cases a:s.run P w with
 | ok u w2 =>
  rw[a] at h;simp only[Result.andThen] at h;cases h;exact⟨_,rfl⟩
 | halt y w2 =>
  rw[a] at h;simp only[Result.andThen] at h;cases h
theorem Bj{P:Program}{o:Oper}{ρ:Operand->Value}{w e:World}{n:Next}(f:yh o=true)(h:(execOp ρ o).run P w = .ok n e):∃v,n = .value v:=by
 unfold yh at f;unfold execOp at h
 split at f
 .rename_i x hx;rw[hx] at h;simp only[] at h;cases h;exact⟨_,rfl⟩
 .rename_i x hx;rw[hx] at h;simp only[] at h;cases h;exact⟨_,rfl⟩
 all_goals first
  | (cases f;done)
  | (rename_i hx;rw[hx] at h;exact Xw h)
  | skip
 rename_i x hx;rw[hx] at h;simp only[] at h
 split at h
 .cases h
 .cases h
 .cases h
 rotate_left
 .cases h;exact⟨_,rfl⟩
 rename_i c first d _
 split at h
 .cases h
 rotate_left
 .cases h;exact⟨_,rfl⟩
 rename_i t u _;simp only[Sem.run_bind] at h;cases g:(nilAhead (P.types.size+Made.depth) t u c).run P w with
 | ok b w2 =>
  change Result.andThen ((nilAhead (P.types.size+Made.depth) t u c).run P w) (λa e=>_)=_ at h;rw[g] at h;simp only[Result.andThen] at h
  split at h
  .cases h
  cases h;exact⟨_,rfl⟩
 | halt y w2 =>
  change Result.andThen ((nilAhead (P.types.size+Made.depth) t u c).run P w) (λa e=>_)=_ at h;rw[g] at h;cases h
theorem ap{P:Program}{l:List Oper}{Q:Exit->Act->World->Prop}{S:World->Prop}{r:List (Bool × Nat)}(k:Nat){o:Oper}{a:Act}{w:World}(d:l[k]?=some o)(m:yh o=true)
  (h:wpQuiet P l.toArray S (λg=>yi P l.toArray Q S r g w) [o] a):yi P l.toArray Q S ((true,k) :: r) a w:=by
 unfold wpQuiet at h
 split at h
 .rename_i b;obtain⟨v,f,j⟩:=h;refine⟨o,v,by simpa using d,.inl ⟨b,λe i => ?_⟩,j⟩;have:=f e i;unfold Oper.quietAt at this;cases c:(execOp a.eval o).run P e with
  | ok n w2 =>
   rw[c] at this;obtain⟨u,rfl⟩:=Bj m c;simp only[Oper.quietUpon] at this;rw[this.1,this.2]
  | halt x w2=>rw[c] at this;exact this.elim
 rename_i b;refine⟨o,undef,by simpa using d,.inr ⟨by simpa using b,rfl⟩,h⟩
open Go.Sort
theorem aae(n k:Int)(w:World)(a:0<=n/\n<=1000):
  Calls prog 71 #[.int .i64 n,.int .i64 k] w λe b=>e = .returned (.bool (inB k 0 (n-1)))/\b=w:=by
 obtain⟨m,rfl⟩:=Qzz a.1;exact dk m k w (by unfold maxLen;omega)
theorem ri(x:Hd)(w:World):
  Calls prog 131 #[x.val] w λe a=>e = .returned (.bool (gx x))/\Below w.heap.size w a:=by
 unfold gx Hd.val;go_enter func131,ntmps131;go_wp2_with(first|(go_at_call 71;refine ah (aae _ _ _ (by omega)) ?_)|(go_at_call 63;refine ah (ch _ _ _ _) ?_))
 all_goals go_ret
 all_goals exact⟨by simp[*],brf.alloc nlr _⟩
theorem z8(x:Hd)(w:World):
  Calls prog 153 #[x.val] w λe a=>e = .returned (.bool (gx x))/\Below w.heap.size w a:=by
 unfold gx Hd.val;go_enter func153,ntmps153;go_wp2_with(go_at_call 23;refine ah (ce _ _ _ _) ?_)
 all_goals go_ret
 all_goals exact⟨by simp[*],brf.alloc nlr _⟩
theorem O9(x:Hd)(w:World)(h:gx x=true):
  Calls prog 154 #[x.val] w λe b=>e = .returned (.int .i64 (ba x))/\Below w.heap.size w b:=by
 have a:=cx h;unfold ba Hd.val;go_enter func154,ntmps154
 go_wp2
 go_ret;exact⟨rfl,brf.alloc nlr _⟩
theorem D3(x y:Int)(w:World):
  Calls prog 159 #[.int .i64 x,.int .i64 y] w λe a=>e = .returned (.int .i64 (Cz x y))/\a=w:=by
 unfold Cz;by_cases c:x<y
 .go_enter func159,ntmps159
  go_wp2
  go_ret;exact⟨by simp,rfl⟩
 by_cases b:y<x
 .go_enter func159,ntmps159
  go_wp2
  go_ret;exact⟨by simp,rfl⟩
 go_enter func159,ntmps159
 go_wp2
 go_ret;exact⟨by simp,rfl⟩
theorem abd(g:Nat)(a b c:Int)(w:World)(h:Blk w g 3 3 (λj=>(#[.int .i64 a,.int .i64 b,.int .i64 c]:Array Value).getD j default)):
  Calls prog 158 #[.slice (some ⟨g,0,none⟩) 3 3] w λe u=>e = .returned (.int .i64 (orI a b c))/\u=w:=by
 have v:w.cell? ⟨g,0,none⟩=some (.int .i64 a):=h.k 0;have c1:w.cell? ⟨g,1,none⟩=some (.int .i64 b):=h.k 1;have c2:w.cell? ⟨g,2,none⟩=some (.int .i64 c):=h.k 2;clear h;unfold orI;go_enter func158,ntmps158
 go_wp2
 go_loop [8] (λi=>∃k:Nat,k<=3/\i = .int .i64 k/\(1<=k->a=0)/\(2<=k->b=0)/\(3<=k->c=0)) (λi=>3-(intOf i).toNat)
 case atStart=>exact⟨0,by omega,rfl,λh=>by omega,λh=>by omega,λh=>by omega⟩
 obtain⟨k,x,rfl,s,p,hc⟩:=hrel;have l:Hid _:=And.intro s (And.intro p hc);clear s p hc;have r:k=0\/k=1\/k=2\/k=3:=by omega
 rcases r with rfl|rfl|rfl|rfl
 .cases f:(a !=0)
  .have d:a=0:=by simpa using f
   have m:=hid d;clear d
   go_wp2
   go_round
   case rel=>exact⟨1,by omega,by go_num,λ_=>m.out,λh=>by omega,λh=>by omega⟩
   case measure=>simp[intOf]
  have d:¬a=0:=by simpa using f
  go_wp2
  go_ret;exact⟨by simp,rfl⟩
 .have o:=l.out.1 (by omega);have n:=hid o;clear o;cases f:(b !=0)
  .have d:b=0:=by simpa using f
   have m:=hid d;clear d
   go_wp2
   go_round
   case rel=>exact⟨2,by omega,by go_num,λ_=>n.out,λ_=>m.out,λh=>by omega⟩
   case measure=>simp[intOf]
  have d:¬b=0:=by simpa using f
  go_wp2
  go_ret;exact⟨by simp,rfl⟩
 .have n:Hid (a=0):=l.out.1 (by omega);have q:Hid (b=0):=l.out.2.1 (by omega);cases f:(c !=0)
  .have d:c=0:=by simpa using f
   have m:=hid d;clear d
   go_wp2
   go_round
   case rel=>exact⟨3,by omega,by go_num,λ_=>n.out,λ_=>q.out,λ_=>m.out⟩
   case measure=>simp[intOf]
  go_wp2
  go_ret;exact⟨by simp,rfl⟩
 have n:Hid (a=0):=l.out.1 (by omega);have q:Hid (b=0):=l.out.2.1 (by omega);have t:Hid (c=0):=l.out.2.2 (by omega)
 go_wp2
 go_ret;exact⟨by simp[t.out],rfl⟩
theorem tg(x y:Hd)(w:World):
  Calls prog 132 #[x.val,y.val] w λe f=>e = .returned (.int .i64 (l9 x y))/\Below w.heap.size w f:=by
 unfold l9 Hd.val;have F:∃W,(w.alloc (.cells #[.int .i64 x.o,.int .i64 x.l,.int .i64 x.b,.int .i64 x.n] 61)).alloc (.cells #[.int .i64 y.o,.int .i64 y.l,.int .i64 y.b,.int .i64 y.n] 61)=W/\Below w.heap.size w W /\
   (W.cell? ⟨w.heap.size,0,none⟩=some (.int .i64 x.o)/\W.cell? ⟨w.heap.size,1,none⟩=some (.int .i64 x.l)/\W.cell? ⟨w.heap.size,2,none⟩=some (.int .i64 x.b)) /\
   (W.cell? ⟨w.heap.size+1,0,none⟩=some (.int .i64 y.o)/\W.cell? ⟨w.heap.size+1,1,none⟩=some (.int .i64 y.l)/\W.cell? ⟨w.heap.size+1,2,none⟩=some (.int .i64 y.b)):=by
  refine⟨_,rfl,(brf.alloc nlr _).alloc (by simp) _,?_,?_⟩
  .exact⟨by simp,by simp,by simp⟩
  exact⟨by simp,by simp,by simp⟩
 obtain⟨W,g,c,⟨v,q,r⟩,t,u,m⟩:=F;have h:Hid _:=g;clear g;go_enter func132,ntmps132;go_wp2_with fail;rw[h.out];clear h;have e0:=Qqq v;have z:=Qqq q;have E:=Qqq r;have D:=Qqq t;have G:=Qqq u;have H:=Qqq m;refine pb (λf=>∃p:Regrown,f=grow (redrawn W p.d) p.os)
  ([0,1,2,3,5,6,7,8,10,11,12,13].map (λk=>(true,k))++[(false,4),(false,9),(false,14),(false,15),(false,16),(false,17)]) (by kernel_rfl) (by kernel_rfl) (by kernel_rfl) (by kernel_rfl) (Qqx (brf.drew)) ?_
 refine ap 0 rfl rfl ?_
 go_big_quiet_step(fail)
 refine Qqz ?_;refine ap 1 rfl rfl ?_
 go_big_quiet_step(fail)
 refine Qqz ?_;refine ap 2 rfl rfl ?_
 go_big_quiet_step(fail)
 refine Qqz ?_;refine ap 3 rfl rfl ?_
 go_big_quiet_step(fail)
 refine Qqz ?_;refine ap 5 rfl rfl ?_
 go_big_quiet_step(fail)
 refine Qqz ?_;refine ap 6 rfl rfl ?_
 go_big_quiet_step(fail)
 refine Qqz ?_;refine ap 7 rfl rfl ?_
 go_big_quiet_step(fail)
 refine Qqz ?_;refine ap 8 rfl rfl ?_
 go_big_quiet_step(fail)
 refine Qqz ?_;refine ap 10 rfl rfl ?_
 go_big_quiet_step(fail)
 refine Qqz ?_;refine ap 11 rfl rfl ?_
 go_big_quiet_step(fail)
 refine Qqz ?_;refine ap 12 rfl rfl ?_
 go_big_quiet_step(fail)
 refine Qqz ?_;refine ap 13 rfl rfl ?_
 go_big_quiet_step(fail)
 refine Qqz ?_;refine db 4 (by decide) ?_;simp only[Qyq,Xqq,Qyx,Qyz];go_wp2_with(go_at_call 159;refine ah (D3 _ _ _) ?_);refine⟨Qqx (brf.drew),?_⟩;refine db 9 (by decide) ?_;simp only[Qyq,Xqq,Qyx,Qyz];go_wp2_with(go_at_call 159;refine ah (D3 _ _ _) ?_);refine⟨Qqx (brf.drew),?_⟩;refine db 14 (by decide) ?_;simp only[Qyq,Xqq,Qyx,Qyz];go_wp2_with(go_at_call 159;refine ah (D3 _ _ _) ?_);refine⟨Qqx (brf.drew),?_⟩
 generalize hA:Cz x.o y.o=A
 generalize hBB:Cz x.l y.l=B
 generalize hC:Cz x.b y.b=C
 have j:=hid hA;have s:=hid hBB;have i:=hid hC;clear hA hBB hC;refine db 15 (by decide) ?_;simp only[Qyq,Xqq,Qyx,Qyz];go_wp2_with fail;have a:Below W.heap.size W (W.alloc (.cells #[.int .i64 A,.int .i64 B,.int .i64 C] 3)).drew:=(brf.alloc nlr _).drew;refine⟨Qqx a,?_⟩;refine db 16 (by decide) ?_;simp only[Qyq,Xqq,Qyx,Qyz];go_wp2_with fail;refine ah (abd W.heap.size A B C _ (Blk.below (Blk.mk' rfl rfl) (brf.drew))) ?_;go_wp2_with fail;refine⟨Qqx a,?_⟩;refine db 17 (by decide) ?_;simp only[Qyq,Xqq,Qyx,Qyz];go_wp2_with fail;refine⟨Qqx a,?_⟩;refine NoPanic.normal ?_;go_wp2_with fail;go_ret;exact⟨by rw[j.out,s.out,i.out];rfl,c.trans (a.mono c.size)⟩
theorem dp{w:World}{b q:Nat}{x:Hd}(e:w.cell? ⟨b,q,none⟩=some (.int .i64 x.o))(c:w.cell? ⟨b,q+1,none⟩=some (.int .i64 x.l))(f:w.cell? ⟨b,q+2,none⟩=some (.int .i64 x.b))(a:w.cell? ⟨b,q+3,none⟩=some (.int .i64 x.n)):
  (∀d os,(grow (redrawn w d) os).cell? ⟨b,q,none⟩=some (.int .i64 x.o))/\(∀d os,(grow (redrawn w d) os).cell? ⟨b,q+1,none⟩=some (.int .i64 x.l)) /\
  (∀d os,(grow (redrawn w d) os).cell? ⟨b,q+2,none⟩=some (.int .i64 x.b))/\(∀d os,(grow (redrawn w d) os).cell? ⟨b,q+3,none⟩=some (.int .i64 x.n)):=
 ⟨λd os=>Qqq e d os,λd os=>Qqq c d os,λd os=>Qqq f d os,λd os=>Qqq a d os⟩
theorem Mc(B:Nat)(a:Option Addr)(n c:Nat)(z:Nat->Hd)(i:Nat)(w:World)(hi:i<n)(V:n<=c)(hc:c<=maxLen)(l:jb w a n z)(p:w.cell? ⟨B,0,none⟩=some (.slice a n c)):
  Calls prog 130 #[.int .i64 i,.pointer (some ⟨B,0,none⟩)] w λe G=>e = .returned (.bool (cz z i))/\Below w.heap.size w G:=by
 obtain⟨b,o,rfl,W,t,q,s,r⟩:=l i hi;obtain⟨J,H,E,F⟩:=dp t q s r;have T:=Qqq p;have m1:(0:Int)<=(i:Int):=by omega
 have L:(i:Int)<(n:Int):=by omega
 unfold maxLen at hc;by_cases m:i=0
 .subst m;simp only[Nat.zero_mul,Nat.add_zero] at J H E F;clear t q s r l p;cases h:gx (z 0)
  .go_enter func130,ntmps130;go_wp2_with fail;refine Qxq (by kernel_rfl) (by kernel_rfl) ?_
   repeat(go_big_quiet_step((go_at_call 131;exact Xxz (ri (z 0) _))))
   refine Qqz ?_;intro _ f;obtain⟨⟨j,g⟩,d⟩:=f;subst d;go_wp2_with fail;go_ret;exact⟨by simp[cz,h],Qxx _ _ _⟩
  go_enter func130,ntmps130;go_wp2_with fail;refine Qxq (by kernel_rfl) (by kernel_rfl) ?_
  repeat(go_big_quiet_step((go_at_call 131;exact Xxz (ri (z 0) _))))
  refine Qqz ?_;intro _ f;obtain⟨⟨j,g⟩,d⟩:=f;subst d;go_wp2_with fail;go_ret;exact⟨by simp[cz,h],Qxx _ _ _⟩
 obtain⟨k,rfl⟩:∃k,i=k+1:=⟨i-1,by omega⟩;obtain⟨X,o',v,K,A,D,u,x⟩:=l k (by omega);simp only[Qkx,Qkz,and_true] at v;obtain⟨rfl,rfl⟩:=v;obtain⟨Y,P,p2,S⟩:=dp A D u x;have M:(0:Int)<=(k:Int):=by omega
 have Q:(k:Int)<(n:Int):=by omega
 have U:(0:Int)<(k:Int)+1:=by omega
 clear t q s r A D u x l p m;cases h:gx (z (k+1))
 .go_enter func130,ntmps130;go_wp2_with fail;refine Qxq (by kernel_rfl) (by kernel_rfl) ?_
  repeat(go_big_quiet_step(first|(go_at_call 131;exact Xxz (ri (z (k+1)) _))|(go_at_call 132;exact Xxz (tg (z k) (z (k+1)) _))))
  refine Qqz ?_;intro _ f;obtain⟨⟨j,g⟩,d⟩:=f;subst d;go_wp2_with fail;go_ret;exact⟨by simp[cz,h],Qxx _ _ _⟩
 cases y:decide (0<=l9 (z k) (z (k+1)))
 .go_enter func130,ntmps130;go_wp2_with fail;refine Qxq (by kernel_rfl) (by kernel_rfl) ?_
  repeat(go_big_quiet_step(first|(go_at_call 131;exact Xxz (ri (z (k+1)) _))|(go_at_call 132;exact Xxz (tg (z k) (z (k+1)) _))))
  refine Qqz ?_;intro _ f;obtain⟨⟨j,g⟩,d⟩:=f;subst d;go_wp2_with fail;go_ret;exact⟨by simp only[cz,Nat.add_sub_cancel,h,y];simp,Qxx _ _ _⟩
 go_enter func130,ntmps130;go_wp2_with fail;refine Qxq (by kernel_rfl) (by kernel_rfl) ?_
 repeat(go_big_quiet_step(first|(go_at_call 131;exact Xxz (ri (z (k+1)) _))|(go_at_call 132;exact Xxz (tg (z k) (z (k+1)) _))))
 refine Qqz ?_;intro _ f;obtain⟨⟨j,g⟩,d⟩:=f;subst d;go_wp2_with fail;go_ret;exact⟨by simp only[cz,Nat.add_sub_cancel,h,y];simp,Qxx _ _ _⟩
theorem ts(s:Hs)(w:World)(hs:s.At w):
  Calls prog 75 #[s.val] w λe A=>e = .returned (.int .i64 (gw s.n s.z))/\Below w.heap.size w A:=by
 obtain⟨a,n,c,z⟩:=s;obtain⟨q,hc,o⟩:=hs;dsimp only at q hc o ⊢;have t:=hc;unfold maxLen at hc;simp only[Hs.val];go_enter func75,ntmps75;go_wp2_with fail
 go_loopw [8] (λi x=>∃k:Nat,k<=n/\i = .int .i64 k/\(∀j,j<k->cz z j=false)/\Below (w.heap.size+1) (w.alloc (.cells #[.slice a n c] 28)) x) (λi _=>n-(intOf i).toNat)
 case atStart=>exact⟨0,Qxz _,rfl,λj l=>absurd l (Qzq _),Below.refl _ _⟩
 obtain⟨k,D,rfl,f,d⟩:=hrel;have u:=hid f;clear f;have b:Below w.heap.size w wr:=((Below.refl w.heap.size w).alloc nlr _).trans (d.mono (by omega));have hs:w.heap.size+1<=wr.heap.size:=by have:=d.size;simpa using this
 have y:wr.cell? ⟨w.heap.size,0,none⟩=some (.slice a n c):=(d.cell (p:=⟨w.heap.size,0,none⟩) (by simp)).trans (by simp);by_cases h:k<n;rotate_left
 .go_wp2_with fail;go_ret;have m:aw n (cz z)=false:=ct λj l=>u.out j (by omega);exact⟨by rw[show gw n z=0 from by simp[gw,m]];rfl,b⟩
 go_wp2_with fail;refine(Mc w.heap.size a n c z k wr h q t (o.below b) y).mono ?_;rintro e B ⟨rfl,g⟩;cases r:cz z k
 .go_wp2_with fail;go_roundw
  case measure=>simp[intOf];omega
  refine⟨k+1,by omega,by go_num,?_,d.trans (g.mono hs)⟩;intro j l;by_cases v:j=k
  .rw[v,r]
  exact u.out j (by omega)
 have m:Hid (aw n (cz z)=true):=dt h r;go_wp2_with fail;go_ret;exact⟨by rw[show gw n z=1 from by simp[gw,m.out]];rfl,b.trans (g.mono (by omega))⟩
theorem M4(s:Hs)(w:World)(hs:s.At w):
  Calls prog 110 #[s.val] w λe w'=>e = .returned (.int .i64 (gw s.n s.z))/\Below w.heap.size w w':=by
 obtain⟨a,n,c,z⟩:=s;obtain⟨hn,hc,M⟩:=hs;dsimp only at hn hc M ⊢;have u:Hid (gw n z=if aw n (xz z) then 1 else 0):=by show gw n z=_;rw[Qh];rfl
 unfold maxLen at hc;simp only[Hs.val]
 generalize gw n z=E at u ⊢
 go_enter func110,ntmps110;go_wp2_with fail
 go_loopw [3] (λi wk=>∃k:Nat,k<=n/\i = .int .i64 k/\(∀j,j<k->xz z j=false)/\Below w.heap.size w wk) (λi _=>n-(intOf i).toNat)
 case atStart=>exact⟨0,Qxz _,rfl,λj v=>absurd v (Qzq _),Below.refl _ _⟩
 obtain⟨k,hk,rfl,y,g⟩:=hrel;have D:=hid y;clear y;by_cases p:k<n;rotate_left
 .go_wp2_with fail;go_ret;have m:aw n (xz z)=false:=ct λj v=>D.out j (by omega);exact⟨by rw[u.out,m];rfl,g⟩
 have A:=M.below g;obtain⟨b,o,rfl,hb,V,J,T,K⟩:=A k p;obtain⟨r0,r1,X,Y⟩:=dp V J T K;have m1:(0:Int)<=(k:Int):=by omega
 have m2:(k:Int)<(n:Int):=by omega
 cases t:gx (z k)
 .have m:Hid (aw n (xz z)=true):=dt p (by simp[xz,t]);go_wp2_with fail;refine Qxq (by kernel_rfl) (by kernel_rfl) ?_
  repeat(go_big_quiet_step((go_at_call 153;exact Xxz (z8 (z k) _))))
  refine Qqz ?_;intro _ f;obtain⟨⟨B,l⟩,d⟩:=f;subst d;go_wp2_with fail;go_ret;exact⟨by rw[u.out,m.out];rfl,g.trans ((Qxx _ _ _).mono g.size)⟩
 by_cases r:k=0
 .have P:Hid (xz z k=false):=by show xz z k=false;subst r;simp[xz,t]
  subst r;simp only[Nat.zero_mul,Nat.add_zero] at r0 r1 X Y;go_wp2_with fail;refine Qxq (by kernel_rfl) (by kernel_rfl) ?_
  repeat(go_big_quiet_step((go_at_call 153;exact Xxz (z8 (z 0) _))))
  refine Qqz ?_;intro _ f;obtain⟨⟨B,l⟩,d⟩:=f;subst d;go_wp2_with fail;go_roundw
  case measure=>simp[intOf];omega
  refine⟨1,by omega,by go_num,?_,g.trans ((Qxx _ _ _).mono g.size)⟩;intro j v;have:j=0:=by omega
  rw[this,P.out]
 obtain⟨q,rfl⟩:∃q,k=q+1:=⟨k-1,by omega⟩;have L:gx (z q)=true:=by
  have:=D.out q (by omega);cases hq:gx (z q)
  .simp[xz,hq] at this
  rfl
 obtain⟨b',o',G,ag,U,W,F,H⟩:=A q (by omega);simp only[Qkx,Qkz,and_true] at G;obtain⟨rfl,rfl⟩:=G;obtain⟨p0,p1,p2,p3⟩:=dp U W F H;have m3:(0:Int)<=(q:Int):=by omega
 have m4:(q:Int)<(n:Int):=by omega
 have m5:(0:Int)<(q:Int)+1:=by omega
 have x:Hid _:=And.intro t L;have h:Hid (xz z (q+1)=decide (ba (z (q+1))<=ba (z q))):=by show xz z (q+1)=_;simp[xz,t]
 clear V J T K U W F H r L;cases Q:decide (ba (z (q+1))<=ba (z q));rotate_left
 .rw[Q] at h;have m:Hid (aw n (xz z)=true):=dt p h.out;go_wp2_with fail;refine Qxq (by kernel_rfl) (by kernel_rfl) ?_
  repeat(go_big_quiet_step(first|(go_at_call 153;exact Xxz (z8 (z (q+1)) _))|(go_at_call 154;exact Xxz (O9 _ _ (by first|exact x.out.2|exact x.out.1)))))
  refine Qqz ?_;intro _ f;obtain⟨⟨B,l⟩,d⟩:=f;subst d;go_wp2_with fail;go_ret;exact⟨by rw[u.out,m.out];rfl,g.trans ((Qxx _ _ _).mono g.size)⟩
 rw[Q] at h;go_wp2_with fail;refine Qxq (by kernel_rfl) (by kernel_rfl) ?_
 repeat(go_big_quiet_step(first|(go_at_call 153;exact Xxz (z8 (z (q+1)) _))|(go_at_call 154;exact Xxz (O9 _ _ (by first|exact x.out.2|exact x.out.1)))))
 refine Qqz ?_;intro _ f;obtain⟨⟨B,l⟩,d⟩:=f;subst d;go_wp2_with fail;go_roundw
 case measure=>simp[intOf];omega
 refine⟨q+1+1,by omega,by go_num,?_,g.trans ((Qxx _ _ _).mono g.size)⟩;intro j v;by_cases S:j=q+1
 .rw[S,h.out]
 exact D.out j (by omega)
theorem wi{p:Pl}{s:Sh}(b:iy p=0)(r:um p s):ev p s=0:=by
 unfold ev;have d:aw s.n (λi=>n9 p (s.r i))=false:=ct λi hi=>by
  have a:aw (s.r i).n (λj=>po ((s.r i).z j))=false:=ct λj c=>by
   have:=r.num i hi j (by rw[<-r.len i hi];exact c);simp[po,bq this]
  rw[n9,a,Bool.or_false];simp[r.len i hi]
 rw[d,Bool.or_false];simp[b,r.n]
theorem Br{z z':Nat->Int}{m:Nat}{n:Int}:∀{k:Nat},m<k->(∀i,i<k->z' i=if i=m then z i+n else z i)->cu z' k=cu z k+n
 | k+1,hm,h=>by
  simp only[cu];by_cases a:m=k
  .subst a;rw[h m (by omega),if_pos rfl,re (z:=z') (z':=z) λj b=>by rw[h j (by omega),if_neg (by omega)]];omega
  rw[Br (k:=k) (by omega) λi hi=>h i (by omega),h k (by omega),if_neg (by omega)];omega
def be(x:Hd)(o l b:Int):Bool:=(x.o==o)&&(x.l==l)&&(x.b==b)
def keptV(n:Nat)(z:Nat->Hd)(o l b:Int):Int:=match (List.range n).find? (λi=>be (z i) o l b) with
 | some i=>(z i).n
 | none=>0
theorem kc{n:Nat}{z:Nat->Hd}{o l b:Int}(h:∀j,j<n->be (z j) o l b=false):keptV n z o l b=0:=by
 unfold keptV;have:(List.range n).find? (λi=>be (z i) o l b)=none:=by
  rw[List.find?_eq_none];intro x hx;simp[h x (List.mem_range.1 hx)]
 rw[this]
theorem mg{n k:Nat}{z:Nat->Hd}{o l b:Int}(d:k<n)(h:∀j,j<k->be (z j) o l b=false)(c:be (z k) o l b=true):keptV n z o l b=(z k).n:=by
 unfold keptV;have e:List.range n=List.range k++(k :: (List.range (n-k-1)).map (λi=>k+1+i)):=by
  have:=@List.range_add k (n-k);rw[show k+(n-k)=n by omega] at this;rw[this,show n-k=(n-k-1)+1 by omega,List.range_succ_eq_map];simp[Function.comp_def];intro i hi;omega
 have:(List.range n).find? (λi=>be (z i) o l b)=some k:=by
  rw[e,List.find?_append];have a:(List.range k).find? (λi=>be (z i) o l b)=none:=by
   rw[List.find?_eq_none];intro x hx;simp[h x (List.mem_range.1 hx)]
  rw[a,List.find?_cons];simp[c]
 rw[this]
theorem qz(n:Nat)(z:Nat->Hd)(o l b:Int):(∀j,j<n->be (z j) o l b=false)\/∃k,k<n/\(∀j,j<k->be (z j) o l b=false)/\be (z k) o l b=true:=by
 induction n with
 | zero=>exact .inl λj c=>absurd c (Qzq _)
 | succ n ih =>
  rcases ih with h|⟨k,g,e,f⟩
  .cases d:be (z n) o l b
   .refine .inl λj c => ?_;by_cases a:j=n
    .rw[a,d]
    exact h j (by omega)
   exact .inr ⟨n,by omega,h,d⟩
  exact .inr ⟨k,by omega,e,f⟩
theorem fh{x:Hd}{o l b:Int}(h:be x o l b=true):x.o=o/\x.l=l/\x.b=b:=by
 simpa[be,and_assoc] using h
theorem uv(x:Hd):be x x.o x.l x.b=true:=by simp[be]
theorem F6{x y:Hd}{o l b:Int}(hx:be x o l b=true)(d:be y o l b=true):ba x=ba y:=by
 have a:=fh hx;have c:=fh d;simp[ba,a,c]
def keptS(z:Nat->Hd)(o l:Int):Nat->Int
 | 0=>0
 | n+1=>keptS z o l n+if (z n).o=o/\(z n).l=l then(z n).n else 0
theorem Fz{n:Nat}{z:Nat->Hd}(i:aw (n+1) (cz z)=false)(o l b:Int):keptV (n+1) z o l b=keptV n z o l b+if be (z n) o l b then(z n).n else 0:=by
 rcases qz n z o l b with h|⟨k,f,g,c⟩
 .cases a:be (z n) o l b
  .rw[kc h,kc λj m=>by
    by_cases d:j=n
    .rw[d,a]
    exact h j (by omega)]
   simp
  rw[kc h,mg (Nat.lt_succ_self n) h a];simp
 have e:be (z n) o l b=false:=by
  cases a:be (z n) o l b
  .rfl
  have:=F6 c a;have:=mp i k n f (Nat.lt_succ_self n);omega
 rw[mg f g c,mg (by omega) g c,e];simp
theorem Gl{n:Nat}{z:Nat->Hd}(a:aw (n+1) (cz z)=false):aw n (cz z)=false:=ct λj b=>di a j (by omega)
theorem xf(z:Nat->Hd)(o l:Int):∀n,aw n (cz z)=false->cu (λb=>keptV n z o l b) 6=keptS z o l n
 | 0,_=>by simp[cu,keptS,keptV]
 | n+1,hr=>by
  have f:=xf z o l n (Gl hr);have h:=cx (ca hr n (Nat.lt_succ_self n));by_cases a:(z n).o=o/\(z n).l=l
  .simp only[keptS,a,and_self,if_true];rw[<-f];refine Br (m:=(z n).b.toNat) (by omega) λb g => ?_;rw[Fz hr];by_cases c:b=(z n).b.toNat
   .have:be (z n) o l b=true:=by
     have e:(b:Int)=(z n).b:=by omega
     simp[be,a,e]
    rw[this,if_pos rfl,if_pos c]
   have:be (z n) o l b=false:=by
    cases d:be (z n) o l b
    .rfl
    have:=fh d;omega
   simp[this,c]
  simp only[keptS,a,if_false,Int.add_zero];rw[<-f];refine re λb g => ?_;rw[Fz hr];have:be (z n) o l b=false:=by
   cases d:be (z n) o l b
   .rfl
   have:=fh d;exact absurd ⟨this.1,this.2.1⟩ a
  simp[this]
theorem ro{z:Nat->Hd}(o l:Int):∀n,(∀j,j<n->1<=(z j).n/\(z j).n<=200)->0<=keptS z o l n/\keptS z o l n<=200*n
 | 0,_=>by simp[keptS]
 | n+1,h=>by
  have b:=ro (z:=z) o l n λj a=>h j (by omega);have:=h n (by omega);simp only[keptS]
  split<;>omega
theorem C7{n:Nat}{z:Nat->Hd}(h:∀j,j<n->1<=(z j).n/\(z j).n<=200)(o l b:Int):0<=keptV n z o l b/\keptV n z o l b<=200:=by
 rcases qz n z o l b with d|⟨k,a,c,e⟩
 .rw[kc d];omega
 rw[mg a c e];have:=h k a;omega
theorem Md(s:Hs)(o l b:Int)(w:World)(hs:s.At w):
  Calls prog 118 #[s.val,.int .i64 o,.int .i64 l,.int .i64 b] w λe A=>e = .returned (.int .i64 (keptV s.n s.z o l b))/\A=w:=by
 obtain⟨a,n,c,z⟩:=s;obtain⟨B,hc,v⟩:=hs;dsimp only at B hc v ⊢;unfold maxLen at hc;simp only[Hs.val]
 generalize hV:keptV n z o l b=V
 have t:=hid hV;clear hV;go_enter func118,ntmps118;go_wp2_with fail
 go_loop [9] (λi=>∃k:Nat,k<=n/\i = .int .i64 k/\(∀j,j<k->be (z j) o l b=false)) (λi=>n-(intOf i).toNat)
 case atStart=>exact⟨0,Qxz _,rfl,λj h=>absurd h (Qzq _)⟩
 obtain⟨k,F,rfl,p⟩:=hrel;have m:=hid p;clear p;by_cases q:k<n;rotate_left
 .have g:Hid (0=V):=(kc λj h=>m.out j (by omega)).symm.trans t.out;go_wp2_with fail;go_ret;exact⟨by rw[<-g.out];rfl,rfl⟩
 obtain⟨L,J,rfl,K,G,H,E,D⟩:=v k q;cases d:be (z k) o l b;rotate_left
 .have g:Hid ((z k).n=V):=(mg q m.out d).symm.trans t.out;unfold be at d;simp only[Xxx] at d;obtain⟨⟨x,u⟩,y⟩:=d;go_wp2_with fail;go_ret;exact⟨by rw[<-g.out];rfl,rfl⟩
 have r:=hid d;unfold be at d;cases x:((z k).o==o)
 .clear d;go_wp2_with fail
  go_round
  case rel=>exact⟨k+1,by omega,by go_num,λj h=>by
   by_cases f:j=k
   .rw[f,r.out]
   exact m.out j (by omega)⟩
  case measure=>simp[intOf];omega
 cases u:((z k).l==l)
 .clear d;go_wp2_with fail
  go_round
  case rel=>exact⟨k+1,by omega,by go_num,λj h=>by
   by_cases f:j=k
   .rw[f,r.out]
   exact m.out j (by omega)⟩
  case measure=>simp[intOf];omega
 have y:((z k).b==b)=false:=by simpa[x,u] using d
 clear d;go_wp2_with fail
 go_round
 case rel=>exact⟨k+1,by omega,by go_num,λj h=>by
  by_cases f:j=k
  .rw[f,r.out]
  exact m.out j (by omega)⟩
 case measure=>simp[intOf];omega
theorem Le(s:Hs)(o l:Int)(w:World)(hs:s.At w)(f:aw s.n (cz s.z)=false):
  Calls prog 114 #[s.val,.int .i64 o,.int .i64 l] w λe B=>e = .returned (.int .i64 (keptS s.z o l s.n))/\B=w:=by
 have a:Hid (∀b:Int,0<=keptV s.n s.z o l b/\keptV s.n s.z o l b<=200):=λb=>C7 (λj x=>(cx (ca f j x)).2.2.2) o l b;have q:=xf s.z o l s.n f;have p:=hid q;have v:Hid _:=hs;clear q f hs;have m:Hid (∀k:Nat,k<=6->0<=cu (λb=>keptV s.n s.z o l b) k/\cu (λb=>keptV s.n s.z o l b) k<=200*k):=λk d=>De (n:=6) (λj _=>a.out j) k d
 generalize keptS s.z o l s.n=E at p ⊢
 simp only[Hs.val];go_enter func114,ntmps114;go_wp2_with fail
 go_loopw [7,8] (λu i t=>∃k:Nat,k<=6/\i = .int .i64 k/\u = .int .i64 (cu (λb=>keptV s.n s.z o l b) k)/\t=w) (λ_ i _=>6-(intOf i).toNat)
 case atStart=>exact⟨0,by omega,rfl,rfl,rfl⟩
 obtain⟨k,d,rfl,rfl,h⟩:=hrel;have g:Hid (wr=w):=h;clear h;have A:=m.out k d;have y:=a.out k;have c:Hid (cu (λb=>keptV s.n s.z o l b) (k+1)=cu (λb=>keptV s.n s.z o l b) k+keptV s.n s.z o l k):=rfl;by_cases D:k<6
 .generalize cu (λb=>keptV s.n s.z o l b) k=U at A c ⊢
  go_wp2_with fail;refine ah (Md s o l k wr (by rw[g.out];exact v.out)) ?_
  generalize keptV s.n s.z o l k=V at y c ⊢
  go_wp2_with fail;go_roundw
  case rel=>exact⟨k+1,by omega,by go_num,by rw[c.out],g.out⟩
  case measure=>simp[intOf];omega
 have r:k=6:=by omega
 subst r;rw[p.out];go_wp2_with fail;go_ret;exact⟨rfl,g.out⟩
theorem P5(s:Hs)(o l:Int)(w:World)(hs:s.At w):
  Calls prog 84 #[s.val,.int .i64 o,.int .i64 l] w λe L=>e = .returned (.tuple #[.int .i64 (if gw s.n s.z=0 then keptS s.z o l s.n else 0),.int .i64 (gw s.n s.z)])/\Below w.heap.size w L:=by
 have H:Hid _:=hs;obtain⟨a,n,c,z⟩:=s;obtain⟨P,hc,B⟩:=hs;dsimp only at P hc B ⊢;unfold maxLen at hc;simp only[Hs.val];by_cases g:gw n z=0;rotate_left
 .rw[if_neg g];go_enter func84,ntmps84;go_wp2_with fail;refine(ts ⟨a,n,c,z⟩ w H.out).mono ?_;rintro e Q ⟨rfl,m⟩;dsimp only;go_wp2_with fail
  go_ret2
  exact⟨rfl,m⟩
 have x:aw n (cz z)=false:=by
  cases h:aw n (cz z)
  .rfl
  simp[gw,h] at g
 have K:=wh x;have G:Hid (∀j,j<n->1<=(z j).n/\(z j).n<=200):=λj E=>(cx (ca x j E)).2.2.2;have A:Hid (∀k,k<=n->0<=keptS z o l k/\keptS z o l k<=200*k):=λk F=>ro o l k λj E=>G.out j (by omega);rw[if_pos g];have J:=hid g;clear x;go_enter func84,ntmps84;go_wp2_with fail;refine(ts ⟨a,n,c,z⟩ w H.out).mono ?_;rintro e Q ⟨rfl,m⟩;dsimp only;go_wp2_with fail;clear g
 go_loopw [9,19] (λu i M=>∃k:Nat,k<=n/\i = .int .i64 k/\u = .int .i64 (keptS z o l k)/\Below w.heap.size w M) (λ_ i _=>n-(intOf i).toNat)
 case atStart=>exact⟨0,Qxz _,rfl,rfl,m⟩
 obtain⟨k,F,rfl,rfl,d⟩:=hrel;have S:=A.out k F;by_cases t:k<n;rotate_left
 .have D:k=n:=by omega
  subst D;go_wp2_with fail
  go_ret2
  exact⟨by rw[J.out];rfl,d⟩
 obtain⟨b,q,rfl,X,z0,V,Y,W⟩:=(B.below d) k t;have T:=G.out k t;have r:Hid (keptS z o l (k+1)=keptS z o l k+if (z k).o=o/\(z k).l=l then(z k).n else 0):=rfl
 generalize keptS z o l k=U at S r ⊢
 cases v:((z k).o==o)
 .have f:¬((z k).o=o/\(z k).l=l):=by simp at v;omega
  have p:Hid _:=f;clear f;go_wp2_with fail;go_roundw
  case rel=>exact⟨k+1,by omega,by go_num,by rw[r.out,if_neg p.out,Int.add_zero],d.alloc (by have:=d.size;omega) _⟩
  case measure=>simp[intOf];omega
 cases y:((z k).l==l)
 .have f:¬((z k).o=o/\(z k).l=l):=by simp at y;omega
  have p:Hid _:=f;clear f;go_wp2_with fail;go_roundw
  case rel=>exact⟨k+1,by omega,by go_num,by rw[r.out,if_neg p.out,Int.add_zero],d.alloc (by have:=d.size;omega) _⟩
  case measure=>simp[intOf];omega
 have f:((z k).o=o/\(z k).l=l):=by simp at v y;exact⟨v,y⟩
 have p:Hid _:=f;clear f;go_wp2_with fail;go_roundw
 case rel=>exact⟨k+1,by omega,by go_num,by rw[r.out,if_pos p.out],d.alloc (by have:=d.size;omega) _⟩
 case measure=>simp[intOf];omega
structure P6(n:Nat)(z:Nat->Hd)(t:Hd)(i:Nat):Prop where
 le:i<=n
 lo:∀q,q<i->l9 (z q) t<0
 hi:∀q,i<=q->q<n->0<=l9 (z q) t
theorem Pd{n:Nat}{z:Nat->Hd}(h:aw n (cz z)=false)(p q:Nat)(a:p<q)(b:q<n):l9 (z p) (z q)<0:=by
 have d:=ca h p (by omega);have c:=ca h q b;have:=(Ak d c).1;have:=mp h p q a b;omega
theorem Ll(s:Hs)(t:Hd)(w:World)(hs:s.At w)(U:aw s.n (cz s.z)=false):
  Calls prog 146 #[s.val,t.val,.func (.func 132) #[] #[]] w λe w'=>∃i:Nat,e = .returned (.tuple #[.int .i64 i,.bool (decide (i<s.n)&&decide (l9 (s.z i) t=0))])/\P6 s.n s.z t i/\Below w.heap.size w w':=by
 have V:=wh U;have Q:Hid (∀p q,p<q->q<s.n->l9 (s.z p) (s.z q)<0):=λp q x g=>Pd U p q x g;clear U;obtain⟨a,n,c,z⟩:=s;obtain⟨hn,hc,S⟩:=hs;dsimp only at hn hc S V Q ⊢;unfold maxLen at hc;have ad:Below w.heap.size w (w.alloc (.cells #[.int .i64 t.o,.int .i64 t.l,.int .i64 t.b,.int .i64 t.n] 61)):=brf.alloc nlr _;have hT:Hid (∀r,Below (w.heap.size+1) (w.alloc (.cells #[.int .i64 t.o,.int .i64 t.l,.int .i64 t.b,.int .i64 t.n] 61)) r->r.cell? ⟨w.heap.size,0,none⟩=some (.int .i64 t.o)/\r.cell? ⟨w.heap.size,0+1,none⟩=some (.int .i64 t.l)/\r.cell? ⟨w.heap.size,0+2,none⟩=some (.int .i64 t.b)/\r.cell? ⟨w.heap.size,0+3,none⟩=some (.int .i64 t.n)):=λr h =>
  ⟨(h.cell (p:=⟨w.heap.size,0,none⟩) (by simp)).trans (by simp),(h.cell (p:=⟨w.heap.size,1,none⟩) (by simp)).trans (by simp),(h.cell (p:=⟨w.heap.size,2,none⟩) (by simp)).trans (by simp),(h.cell (p:=⟨w.heap.size,3,none⟩) (by simp)).trans (by simp)⟩
 simp only[Hs.val,Hd.val];go_enter func146,ntmps146;go_wp2_with fail
 go_loopw [9,10] (λu v wk=>∃i j:Nat,i<=j/\j<=n/\u = .int .i64 i/\v = .int .i64 j/\(∀q,q<i->l9 (z q) t<0)/\(∀q,j<=q->q<n->0<=l9 (z q) t)/\Below (w.heap.size+1) (w.alloc (.cells #[.int .i64 t.o,.int .i64 t.l,.int .i64 t.b,.int .i64 t.n] 61)) wk) (λu v _=>(intOf v).toNat-(intOf u).toNat)
 case atStart=>exact⟨0,n,Qxz _,Nat.le_refl _,rfl,rfl,λq hq=>absurd hq (Qzq _),λq x g=>by omega,Below.refl _ _⟩
 obtain⟨i,j,a1,hj,rfl,rfl,P,L,G⟩:=hrel;have K:Hid _:=And.intro P L;clear P L;have k:Below w.heap.size w wr:=ad.trans (G.mono (by omega));have M:w.heap.size+1<=wr.heap.size:=by have:=G.size;simpa using this
 obtain⟨X,t1,Y,t3⟩:=hT.out wr G;obtain⟨p0,p1,p2,p3⟩:=dp X t1 Y t3;simp only[Nat.zero_add] at p1 p2 p3;clear X t1 Y t3;by_cases a2:i<j;rotate_left
 .have W:i=j:=by omega
  subst W;have HP:Hid (P6 n z t i):=⟨hj,K.out.1,K.out.2⟩;by_cases H:i<n;rotate_left
  .have hd:decide ((i:Int)<(n:Int))=false:=by simp;omega
   go_wp2_with fail;refine Qxq (by kernel_rfl) (by kernel_rfl) ?_
   repeat(go_big_quiet_step((go_at_call 132;exact Xxz (tg (z i) t _))))
   refine Qqz ?_;intro _ f;obtain⟨⟨T,F⟩,d⟩:=f;subst d;go_wp2_with fail
   go_ret2
   refine⟨i,?_,HP.out,k.trans ((Qxx _ _ _).mono k.size)⟩;simp[H]
  obtain⟨b,o,rfl,hb,D,J,B,y⟩:=(S.below k) _ H;obtain⟨r0,r1,r2,r3⟩:=dp D J B y;clear D J B y;have m3:(0:Int)<=(i:Int):=by omega
  have m4:(i:Int)<(n:Int):=by omega
  have hd:decide ((i:Int)<(n:Int))=true:=by simp;omega
  go_wp2_with fail;refine Qxq (by kernel_rfl) (by kernel_rfl) ?_
  repeat(go_big_quiet_step((go_at_call 132;exact Xxz (tg (z i) t _))))
  refine Qqz ?_;intro _ f;obtain⟨⟨T,F⟩,d⟩:=f;subst d;go_wp2_with fail
  go_ret2
  refine⟨i,?_,HP.out,k.trans ((Qxx _ _ _).mono k.size)⟩;simp[H]
  rfl
 obtain⟨m,hm⟩:∃m,m=(i+j)/2:=⟨_,rfl⟩;have ah:i<=m/\m<j:=by omega
 have ae:Hid (((i:Int)+(j:Int))/2=(m:Int)):=by show((i:Int)+(j:Int))/2=(m:Int);omega
 clear hm;have hh:m<n:=by omega
 obtain⟨b,o,rfl,hb,D,J,B,y⟩:=(S.below k) _ hh;obtain⟨r0,r1,r2,r3⟩:=dp D J B y;clear D J B y;have m3:(0:Int)<=(m:Int):=by omega
 have m4:(m:Int)<(n:Int):=by omega
 go_wp2_with fail;rw[ae.out];cases x:decide (l9 (z m) t<0);rotate_left
 .have g:l9 (z m) t<0:=by simpa using x
  have A:Hid _:=g;clear g;refine Qxq (by kernel_rfl) (by kernel_rfl) ?_
  repeat(go_big_quiet_step((go_at_call 132;exact Xxz (tg (z m) t _))))
  refine Qqz ?_;intro _ f;obtain⟨⟨T,F⟩,d⟩:=f;subst d;go_wp2_with fail;go_roundw
  case measure=>simp[intOf];omega
  refine⟨m+1,j,by omega,hj,by go_num,by go_num,λq hq => ?_,K.out.2,G.trans ((Qxx _ _ _).mono M)⟩;by_cases E:q=m
  .rw[E];exact A.out
  exact Oa (Q.out q m (by omega) (by omega)) A.out
 have g:¬l9 (z m) t<0:=by simpa using x
 have A:Hid _:=g;clear g;refine Qxq (by kernel_rfl) (by kernel_rfl) ?_
 repeat(go_big_quiet_step((go_at_call 132;exact Xxz (tg (z m) t _))))
 refine Qqz ?_;intro _ f;obtain⟨⟨T,F⟩,d⟩:=f;subst d;go_wp2_with fail;go_roundw
 case measure=>simp[intOf];omega
 refine⟨i,m,ah.1,by omega,by go_num,by go_num,K.out.1,λq x g => ?_,G.trans ((Qxx _ _ _).mono M)⟩;by_cases E:q=m
 .rw[E];exact Int.not_lt.1 A.out
 rcases Int.lt_or_le (l9 (z q) t) 0 with h|h
 .exact absurd (Oa (Q.out m q (by omega) g) h) A.out
 exact h
end Go.Proofs.YtbcacebifpagpagGreat
namespace Go.Proofs.YtbcacebifpagpagGreat
open _root_.Go.Proofs.Tryz
open Go.RowKit Go.Shelf Go.Lib
theorem Kh:(prog.info? 61).map (λi=>(i.zero,i.size,i.bytes))=some (some (.agg #[.int .i64 0,.int .i64 0,.int .i64 0,.int .i64 0]),4,32):=by kernel_rfl
theorem Ye(n:Nat)(w:World)(q:n<=1000):
  Calls prog 162 #[.slice none 0 0,.int .i64 n] w λe k=>∃v,e = .returned v/\k.ownsRow w.heap.size 61 4 v 0 []/\Below w.heap.size w k:=by
 obtain⟨f,hi,i,p,b⟩:=info_parts Kh;by_cases m:n=0
 .subst m;go_enter func162,ntmps162
  go_wp2
  go_ret;exact⟨_,rfl,World.ownsRow_nil _ _ _ _,Below.refl _ _⟩
 have hold:(Builtin.firstCells f.size 0 (.slice none 0 0)).run prog w.drew = .ok (#[]:Array Value) w.drew:=run_firstCells_none w.drew f.size 0 0 0;have c:∀d,(Builtin.append_ #[28,3] d #[.slice none 0 0,.int .i64 (n:Int)]).run prog w =
   .ok (.slice (some ⟨w.heap.size,0,none⟩) n (grownCap w n 0 61)) (w.drew.alloc (.cells (#[]++Builtin.zeroCells (Value.agg #[.int .i64 0,.int .i64 0,.int .i64 0,.int .i64 0]).cells n++Builtin.zeroCells (Value.agg #[.int .i64 0,.int .i64 0,.int .i64 0,.int .i64 0]).cells (grownCap w n 0 61-n)) 61)):=λd=>by
  have h:=Lib.run_append_grow_zeros w 28 3 d 61 f (.agg #[.int .i64 0,.int .i64 0,.int .i64 0,.int .i64 0]) .i64 .i64 underlying28 underlying3 hi i none 0 0 [] hold n (by omega) (by omega) (by omega) (by omega)
   (by rw[b];omega)
   (by rw[Nat.zero_add];exact growslice_fits (by omega) (by rw[b];omega))
  rw[Nat.zero_add] at h;exact h
 have g:n<=grownCap w n 0 61:=grownCap_ge w _ _ _;have a:=grownCap_le_maxLen w n 0 61 (by unfold maxLen;omega);obtain⟨G,j⟩:∃G,G=grownCap w n 0 61:=⟨_,rfl⟩;rw[<-j] at c g a;have l:=hid a;unfold maxLen at a;have o:(0:Int)<(n:Int):=by omega
 clear hold j;go_enter func162,ntmps162;go_wp2_with(at_builtin;refine Lib.wpList_append_run _ rfl _ _ _ _ rfl _ _ rfl rfl _ _ (c _) ?_);go_ret;refine⟨_,rfl,?_,(brf.alloc nlr _).drew⟩;exact(World.ownsRow_made (base:=w.heap.size) (e:=61) (size:=4) w (Builtin.zeroCells #[.int .i64 0,.int .i64 0,.int .i64 0,.int .i64 0] n++Builtin.zeroCells #[.int .i64 0,.int .i64 0,.int .i64 0,.int .i64 0] (G-n)) G nlr l.out (by
  simp[Builtin.zeroCells];omega)).drew
def ax(n:Nat)(z:Nat->Hd):List Value:=(List.range n).flatMap λi=>dg (z i)
theorem ep:∀(n:Nat) (z:Nat->Hd),(ax n z).length=n*4
 | 0,_=>rfl
 | n+1,z=>by
  have:=ep n z;unfold ax at *;rw[List.range_succ,List.flatMap_append,List.length_append,this];simp[dg];omega
theorem tx(n:Nat)(z:Nat->Hd):ax (n+1) z=ax n z++dg (z n):=by
 unfold ax;rw[List.range_succ,List.flatMap_append];simp
theorem vr:∀(n:Nat) (z:Nat->Hd) (i c:Nat),i<n->c<4->(ax n z)[i*4+c]?=(dg (z i))[c]?
 | n+1,z,i,c,hi,hc=>by
  rw[tx];by_cases a:i=n
  .subst a;rw[List.getElem?_append_right (by rw[ep];omega),ep]
   congr 1
   omega
  rw[List.getElem?_append_left (by rw[ep];omega)];exact vr n z i c (by omega) hc
theorem my{n:Nat}{z z':Nat->Hd}(h:∀i,i<n->z i=z' i):ax n z=ax n z':=by
 unfold ax;rw[List.flatMap_def,List.flatMap_def];rw[List.map_congr_left λi hi=>by rw[h i (List.mem_range.1 hi)]]
theorem ma(n:Nat)(z:Nat->Hd):∀u∈ax n z,u.oneCell'=true:=by
 intro u a;unfold ax at a;rw[List.mem_flatMap] at a;obtain⟨i,_,hi⟩:=a;simp[dg] at hi;rcases hi with rfl|rfl|rfl|rfl<;>rfl
theorem jb.news{w:World}{b o n:Nat}{z:Nat->Hd}(h:jb w (some ⟨b,o,none⟩) n z):∀j u,(ax n z)[j]?=some u->w.cell? ((⟨b,o,none⟩:Addr).add j)=some u:=by
 intro j u a;have l:j<n*4:=by
  have:=(List.getElem?_eq_some_iff.1 a).1
  rwa[ep] at this
 have e:j=(j/4)*4+j%4:=by omega
 have d:j/4<n:=by omega
 obtain⟨m,p,c,_,i,f,k,g⟩:=h (j/4) d;simp only[Qkx,Qkz,and_true] at c;obtain⟨rfl,rfl⟩:=c;rw[e,vr n z _ _ d (by omega)] at a;rw[Go.WideShapes.add_plain];have hc:j%4=0\/j%4=1\/j%4=2\/j%4=3:=by omega
 rcases hc with hc|hc|hc|hc
 .rw[hc] at a;simp[dg] at a;rw[<-a,<-i];congr 2;omega
 .rw[hc] at a;simp[dg] at a;rw[<-a,<-f];congr 2;omega
 .rw[hc] at a;simp[dg] at a;rw[<-a,<-k];congr 2;omega
 rw[hc] at a;simp[dg] at a;rw[<-a,<-g];congr 2;omega
theorem Hs.ofOwns{w:World}{base:Nat}{e:TypeId}{v:Value}{n:Nat}{z:Nat->Hd}(h:w.ownsRow base e 4 v n (ax n z)):∃s:Hs,v=s.val/\s.At w/\s.n=n/\s.z=z:=by
 by_cases b:v = .slice none 0 0
 .have m:n=0:=by
   rcases h.2 with⟨_,o⟩|⟨g,cap,cur,a,_⟩
   .exact o
   rw[b] at a;cases a
  subst m;exact⟨⟨none,0,0,z⟩,b,⟨Nat.le_refl _,Qxz _,λi hi=>absurd hi (Qzq _),λ_=>rfl⟩,rfl,rfl⟩
 obtain⟨g,c,rfl,l,p,r,d⟩:=Blk.ofOwns h b;refine⟨⟨some ⟨g,0,none⟩,n,c,z⟩,rfl,⟨l,p,λi hi => ?_,λh=>by cases h⟩,rfl,rfl⟩;have j:i<n:=hi;have k:∀q,q<4->w.cell? ⟨g,0+i*4+q,none⟩=some ((ax n z).getD (i*4+q) default):=λq f=>by
  rw[Nat.zero_add];exact d.cell (by omega)
 have e:∀q,q<4->(ax n z).getD (i*4+q) default=(dg (z i)).getD q default:=λq f=>by
  simp only[List.getD,vr n z i q j f]
 refine⟨g,0,rfl,d.lt,?_,?_,?_,?_⟩
 .have:=k 0 (by omega);rw[e 0 (by omega)] at this;simpa[dg] using this
 .have:=k 1 (by omega);rw[e 1 (by omega)] at this;simpa[dg] using this
 .have:=k 2 (by omega);rw[e 2 (by omega)] at this;simpa[dg] using this
 have:=k 3 (by omega);rw[e 3 (by omega)] at this;simpa[dg] using this
end Go.Proofs.YtbcacebifpagpagGreat
namespace Go.Proofs.YtbcacebifpagpagGreat
open _root_.Go.Proofs.Tryz
open Go.RowKit Go.Shelf
def tu(S:Nat->Hs):Nat->Nat
 | 0=>0
 | k+1=>tu S k+(S k).n
def Bu(S:Nat->Hs):Nat->List Value
 | 0=>[]
 | k+1=>Bu S k++ax (S k).n (S k).z
theorem Nx{S:Nat->Hs}{m:Nat}(h:∀i,i<m->(S i).n<=100):∀k,k<=m->tu S k<=100*k
 | 0,_=>by simp[tu]
 | k+1,hk=>by
  have:=Nx h k (by omega);have:=h k (by omega);simp only[tu];omega
theorem Ff(m g J:Nat)(S:Nat->Hs)(w:World)(hm:m<=3)(aj:m<=J)(Y:J<=maxLen)(V:Blk w g 28 m (λi => .slice (S i).a (S i).n (S i).c))(G:∀i,i<m->(S i).At w)(hn:∀i,i<m->(S i).n<=100):
  Calls prog 147 #[.slice (some ⟨g,0,none⟩) m J] w λe T=>∃v,e = .returned v/\T.ownsRow w.heap.size 61 4 v (tu S m) (Bu S m)/\Below w.heap.size w T:=by
 obtain⟨i0,hi,ae,W,Q⟩:=info_parts Kh;have K:=hid G;have F:=hid hn;clear G hn;unfold maxLen at Y;go_enter func147,ntmps147;go_wp2_with fail
 go_loop [3,11] (λu i=>∃k:Nat,k<=m/\i = .int .i64 k/\u = .int .i64 (tu S k:Nat)) (λ_ i=>m-(intOf i).toNat)
 case atStart=>exact⟨0,Qxz _,rfl,rfl⟩
 obtain⟨k,hk,rfl,rfl⟩:=hrel;have b1:=Nx F.out k hk;by_cases r:k<m
 .have b2:=F.out k r;have P:=V.cell r;have le:=(K.out k r).le;have cap:=(K.out k r).cap;unfold maxLen at cap;have s:Hid (tu S (k+1)=tu S k+(S k).n):=rfl
  generalize tu S k=U at b1 s ⊢
  go_wp2_with fail
  go_round
  case rel=>exact⟨k+1,by omega,by go_num,by rw[s.out];go_num⟩
  case measure=>simp[intOf];omega
 have ag:k=m:=by omega
 subst ag;go_wp2_with fail;refine(Ye (tu S k) w (by omega)).mono ?_;rintro e w1 ⟨v0,rfl,d,ab⟩;go_wp2_with fail
 go_loopw [6,27] (λv i X=>∃j:Nat,j<=k/\i = .int .i64 j/\X.ownsRow w.heap.size 61 4 v (tu S j) (Bu S j)/\Below w.heap.size w X) (λ_ i _=>k-(intOf i).toNat)
 case atStart=>exact⟨0,Qxz _,rfl,d,ab⟩
 obtain⟨j,hj,rfl,d,p⟩:=hrel;by_cases y:j<k;rotate_left
 .have M:j=k:=by omega
  subst M;go_wp2_with fail;go_ret;exact⟨_,rfl,d,p⟩
 have P:=(V.below p).cell y;have hs:=(K.out j y).below p;have b2:=F.out j y;have b3:=Nx F.out j (by omega);cases B:(S j).a with
 | none =>
  have H:(S j).n=0:=by
   rcases Nat.eq_zero_or_pos (S j).n with h|h
   .exact h
   obtain⟨_,_,x,_⟩:=hs.hds 0 h;rw[B] at x;cases x
  rw[B,H,hs.nilc B] at P;have s:Hid (tu S (j+1)=tu S j/\Bu S (j+1)=Bu S j):=by
   show _/\_;simp[tu,Bu,H,ax]
  go_wp2_with(at_builtin;refine wpList_append_own_none rfl (.tmp 31) (.tmp 32) 28 rfl w.heap.size 61 i0 4 underlying28 hi _ _ _ rfl d rfl ?_);go_roundw
  case rel=>exact⟨j+1,by omega,by go_num,by rw[s.out.1,s.out.2];exact d,p⟩
  case measure=>simp[intOf];omega
 | some ad =>
  have f:=hs.hds;rw[B] at P f;go_wp2_with(at_builtin;refine wpList_append_own _ rfl (.tmp 31) (.tmp 32) 28 rfl w.heap.size 61 i0 (.agg #[.int .i64 0,.int .i64 0,.int .i64 0,.int .i64 0]) 4 32 underlying28 hi ae W Q rfl (by decide) _ _ _ rfl d ad (S j).n (S j).c (ax (S j).n (S j).z) rfl ?c1 ?c2 ?c3 ?c4 ?c5 ?c6 ?_)
  case c1=>exact ep _ _
  case c2 =>
   intro q u A;have L:0<(S j).n:=by
    have:=(List.getElem?_eq_some_iff.1 A).1;rw[ep] at this;omega
   obtain⟨b,o,x,_⟩:=f 0 L;simp only[Qkx] at x;subst x;exact f.news q u A
  case c3=>exact ma _ _
  case c4=>unfold maxLen;omega
  case c5=>omega
  case c6=>exact p.size
  intro v' w2 D l E;have t:=d.lt;have af:Below w.heap.size w w2:=p.grown l p.size (λq A=>(t q A).1);clear l E t f;go_wp2_with fail;go_roundw
  case rel=>exact⟨j+1,by omega,by go_num,D,af⟩
  case measure=>simp[intOf];omega
def cy(A:Nat)(e:TypeId)(w:World)(s:Hs):Prop:=s.n<=s.c/\s.c<=maxLen/\(s.a=none->s.c=0)/\(0<s.n->∃g,s.a=some ⟨g,0,none⟩/\A<=g/\Blk w g e (s.n*4) (λj=>(ax s.n s.z).getD j default))
theorem cy.at{A:Nat}{e:TypeId}{w:World}{s:Hs}(h:cy A e w s):s.At w:=by
 obtain⟨d,m,f,o⟩:=h;refine⟨d,m,λi hi => ?_,f⟩;obtain⟨g,l,t,b⟩:=o (by omega);have c:∀k,k<4->w.cell? ⟨g,0+i*4+k,none⟩=(dg (s.z i))[k]?:=λk q=>by
  have r:=b.cell (j:=i*4+k) (by omega);have p:=vr s.n s.z i k hi q;have a:i*4+k<(ax s.n s.z).length:=by rw[ep];omega
  rw[Nat.zero_add,r,<-p,List.getElem?_eq_getElem a];simp[List.getD,List.getElem?_eq_getElem a]
 exact⟨g,0,l,b.lt,c 0 (by decide),c 1 (by decide),c 2 (by decide),c 3 (by decide)⟩
theorem cy.below{A:Nat}{e:TypeId}{w a:World}{s:Hs}(h:cy A e w s)(d:Below w.heap.size w a):cy A e a s:=by
 obtain⟨f,m,c,i⟩:=h;refine⟨f,m,c,λj => ?_⟩;obtain⟨g,l,b,k⟩:=i j;exact⟨g,l,b,k.below d⟩
theorem Blk.ne2{w:World}{g b:Nat}{e d:TypeId}{n k:Nat}{f f':Nat->Value}(h:Blk w g e n f)(j:Blk w b d k f')(i:e≠d):g≠b:=by
 rintro rfl;obtain⟨c,hc,_⟩:=h;obtain⟨l,a,_⟩:=j;rw[hc] at a;cases a;exact i rfl
theorem cy.other{A:Nat}{e t:TypeId}{w:World}{s:Hs}{q n:Nat}{f:Nat->Value}(h:cy A e w s)(m:Blk w q t n f)(b:e≠t)(j:Nat)(u:Value):cy A e (w.setCell ⟨q,j,none⟩ u) s:=by
 obtain⟨i,r,o,k⟩:=h;refine⟨i,r,o,λl => ?_⟩;obtain⟨g,p,d,c⟩:=k l;exact⟨g,p,d,c.other (a:=⟨q,j,none⟩) (Blk.ne2 c m b) u⟩
theorem cy.mono{A a:Nat}{e:TypeId}{w:World}{s:Hs}(h:cy A e w s)(l:a<=A):cy a e w s:=by
 obtain⟨c,k,b,d⟩:=h;refine⟨c,k,b,λf => ?_⟩;obtain⟨g,j,m,i⟩:=d f;exact⟨g,j,by omega,i⟩
def fo(A:Nat)(w:World)(e:TypeId)(size:Nat)(a:Option Addr)(c:Nat):Prop:=c=0\/∃g cur,a=some ⟨g,0,none⟩/\A<=g/\w.heap[g]?=some (.cells cur e (0,0))/\cur.size=c*size
theorem fo.ofOwns{A b:Nat}{w:World}{e:TypeId}{size:Nat}{a:Option Addr}{n k c:Nat}{f:List Value}(h:w.ownsRow A e size (.slice a n c) k f)(d:b<=A):fo b w e size a c:=by
 obtain⟨_,⟨h,_⟩|⟨g,cap,cur,h,i,l,m,p,j,o⟩⟩:=h
 .cases h;exact Or.inl rfl
 cases h;exact Or.inr ⟨g,cur,rfl,Qzx d i,l,j⟩
theorem fo.same{A:Nat}{w d:World}{e:TypeId}{size:Nat}{a:Option Addr}{c:Nat}(h:fo A w e size a c)(hs:∀(g:Nat) (cur:Array Value),w.heap[g]?=some (.cells cur e (0,0))->d.heap[g]?=w.heap[g]?):fo A d e size a c:=by
 rcases h with h|⟨g,cur,f,j,b,i⟩
 .exact Or.inl h
 exact Or.inr ⟨g,cur,f,j,(hs g cur b).trans b,i⟩
theorem fo.below{A:Nat}{w b:World}{e:TypeId}{size:Nat}{a:Option Addr}{c:Nat}(h:fo A w e size a c)(d:Below w.heap.size w b):fo A b e size a c :=
 h.same λg _ f=>d.block g (Qkq f).1
theorem fo.mono{A b:Nat}{w:World}{e:TypeId}{size:Nat}{a:Option Addr}{c:Nat}(h:fo A w e size a c)(i:b<=A):fo b w e size a c:=by
 rcases h with h|⟨g,cur,f,j,d⟩
 .exact Or.inl h
 exact Or.inr ⟨g,cur,f,by omega,d⟩
theorem fo.set{A:Nat}{w:World}{e:TypeId}{size:Nat}{a:Option Addr}{c:Nat}(h:fo A w e size a c)(q j:Nat)(u:Value):fo A (w.setCell ⟨q,j,none⟩ u) e size a c:=by
 rcases h with h|⟨g,cur,d,i,b,f⟩
 .exact Or.inl h
 by_cases k:g=q
 .subst k;exact Or.inr ⟨g,cur.setIfInBounds j u,d,i,by simp[World.setCell,Array.getElem?_modify,b],by simpa using f⟩
 exact Or.inr ⟨g,cur,d,i,(Below.heap_setCell w ⟨q,j,none⟩ u g k).trans b,f⟩
theorem cy.nil(A:Nat)(e:TypeId)(w:World)(z:Nat->Hd):cy A e w ⟨none,0,0,z⟩:=⟨Nat.le_refl _,Qxz _,λ_=>rfl,λh=>absurd h (Nat.lt_irrefl _)⟩
theorem cy.ofRow{w:World}{A base:Nat}{e:TypeId}{v:Value}{n:Nat}{z:Nat->Hd}(h:w.ownsRow base e 4 v n (ax n z))(d:A<=base):∃s:Hs,v=s.val/\cy A e w s/\s.n=n/\s.z=z:=by
 by_cases b:v = .slice none 0 0
 .have j:n=0:=by
   rcases h.2 with⟨_,l⟩|⟨g,cap,cur,a,_⟩
   .exact l
   rw[b] at a;cases a
  subst j;exact⟨⟨none,0,0,z⟩,b,cy.nil A e w z,rfl,rfl⟩
 obtain⟨g,c,rfl,f,m,k,i⟩:=Blk.ofOwns h b;exact⟨⟨some ⟨g,0,none⟩,n,c,z⟩,rfl,⟨f,m,(λe=>by cases e),λ_=>⟨g,rfl,Qzx d k,i⟩⟩,rfl,rfl⟩
theorem Ex:(prog.info? 3).map (λi=>(i.zero,i.size,i.bytes))=some (some (.int .i64 0),1,8):=by kernel_rfl
theorem Q6:(prog.info? 23).map (λi=>(i.zero,i.size,i.bytes))=some (some (.slice none 0 0),1,24):=by kernel_rfl
theorem Di(b o n c:Nat)(z:Nat->Int)(w:World)(D:n*8<=140737488355328)(U:0<n)
  (hc:vm w (some ⟨b,o,none⟩) n z) :
  Calls prog 140 #[.slice (some ⟨b,o,none⟩) n c] w λe v=>∃g d,e = .returned (.slice (some ⟨g,0,none⟩) n d)/\n<=d/\d<=maxLen/\w.heap.size<=g/\Blk v g 3 n (λj => .int .i64 (z j))/\Below w.heap.size w v:=by
 obtain⟨M,hi,B,y,t⟩:=info_parts Ex;have T:∀(w:World) (a:Option Addr) (n c r d:Nat),(binOp .eql 23 (.slice a n c) (.slice none r d)).run prog w = .ok (.bool a.isNone) w:=λw a n c r d=>Lib.run_eql_slice_nil w _ _ a n c r d underlying23;go_enter func140,ntmps140;go_wp2_with(at_builtin;refine wpList_append_own _ rfl _ _ 23 rfl w.heap.size 3 M (.int .i64 0) 1 8 underlying23 hi B y t rfl (by decide) _ _ _ rfl (World.ownsRow_made w #[] 0 nlr (Qxz _) rfl) ⟨b,o,none⟩ n c ((List.range n).map λj=>Value.int .i64 (z j)) rfl ?qc1 ?qc2 ?qc3 ?qc4 ?qc5 ?qc6 ?_)
 case qc1=>simp
 case qc2 =>
  intro j u l;have q:j<n:=by
   have:=(List.getElem?_eq_some_iff.1 l).1
   simpa using this
  obtain⟨V,W,s,L,m⟩:=hc j q;simp only[Qkx,Qkz,and_true] at s;obtain⟨rfl,rfl⟩:=s;rw[Go.WideShapes.add_plain];rw[((Below.refl w.heap.size w).alloc nlr _).cell (p:=⟨b,o+j,none⟩) L,m];simp[q] at l;rw[l]
 case qc3=>intro u K;obtain⟨x,_,rfl⟩:=List.mem_map.1 K;rfl
 case qc4=>unfold maxLen;omega
 case qc5=>omega
 case qc6=>simp
 intro F P i f h;have S:F ≠ .slice none 0 0:=h;obtain⟨g,d,rfl,E,J,G,A⟩:=Blk.ofOwns i S;rw[Nat.mul_one] at A;have H:Below w.heap.size w P:=((Below.refl _ w).alloc nlr _).grown f (by simp) (by intro k Q;simp[Value.ownBlock] at Q;omega);clear i f h hc
 go_wp2
 go_ret;exact⟨g,d,rfl,E,J,G,A.congr (λj l=>by simp[l]),H⟩
theorem Ur{j n:Nat}(a:j<n):(madeCells (Value.slice none 0 0).cells n).toList.getD j default = .slice none 0 0:=by
 simp[madeCells,Value.cells,a,Nat.mod_one]
theorem Ht(s:Sh)(w:World)(hs:s.At w)(hn:s.n<=6)(hr:∀i,i<s.n->1<=(s.r i).n/\(s.r i).n<=3):
  Calls prog 136 #[s.val] w λe S=>∃(g:Nat) (G C:Nat->Nat),e = .returned (.slice (some ⟨g,0,none⟩) s.n s.n)/\w.heap.size<=g /\
   Blk S g 23 s.n (λi => .slice (some ⟨G i,0,none⟩) (s.r i).n (C i)) /\
   (∀i,i<s.n->g<G i/\(s.r i).n<=C i/\C i<=maxLen/\Blk S (G i) 3 (s.r i).n (λj => .int .i64 ((s.r i).z j))) /\
   (∀i j,i<j->j<s.n->G i<G j)/\Below w.heap.size w S:=by
 obtain⟨ad,v,rows⟩:=hs;obtain⟨s0,q,sc,a⟩:=s;dsimp only at ad v rows hn hr;unfold maxLen at v;simp only[Sh.val];obtain⟨i0,hi,Y,ah,ac⟩:=info_parts Q6;go_enter func136,ntmps136;go_wp2_with(at_make;refine wpList_make_full _ rfl _ _ 26 rfl w.heap.size 23 i0 (.slice none 0 0) 1 underlying26 hi Y ah .i64 .i64 _ _ q rfl rfl rfl rfl (by rw[ac];omega) (by unfold maxLen;omega) nlr ?_;intro w1 x m);obtain⟨g,c',hv,_,_,_,y⟩:=Blk.ofOwns x (by simp);simp only[Value.slice.injEq,Qkx,Qkz,and_true] at hv;obtain⟨rfl,-,-⟩:=hv;rw[Nat.mul_one] at y;have X:Below w.heap.size w w1:=(Below.refl _ w).grown m nlr (by intro k hk;cases hk);clear x m
 go_loopw [11] (λi T=>∃k:Nat,k<=q/\i = .int .i64 k/\(∃(G C:Nat->Nat),Blk T w.heap.size 23 q (λi=>if i<k then .slice (some ⟨G i,0,none⟩) (a i).n (C i) else .slice none 0 0) /\
   (∀i,i<k->w.heap.size<G i/\(a i).n<=C i/\C i<=maxLen/\Blk T (G i) 3 (a i).n (λj => .int .i64 ((a i).z j))) /\
   (∀i j,i<j->j<k->G i<G j))/\Below w.heap.size w T) (λi _=>q-(intOf i).toNat)
 case atStart=>exact⟨0,Qxz _,rfl,⟨λ_=>0,λ_=>0,y.congr (λj f=>by rw[Ur f];simp),λi hi=>absurd hi (Qzq _),λi j _ f=>absurd f (Qzq _)⟩,X⟩
 obtain⟨k,hk,rfl,B,L⟩:=hrel;by_cases A:k<q;rotate_left
 .go_wp2_with fail;go_ret;have U:k=q:=by omega
  subst U;obtain⟨G,C,u,c,t⟩:=B;exact⟨w.heap.size,G,C,rfl,Nat.le_refl _,u.congr (λj f=>by simp[f]),c,t,L⟩
 obtain⟨b,o,rfl,hb,z0,V⟩:=(rows.below L) k A;have a0:=hr k A;obtain⟨ax,ak,ints⟩:=V;obtain⟨b1,o1,ha,ay,y0⟩:=ints 0 (by omega);rw[ha] at z0 ints;clear y0;have HG:Hid _:=B;clear B ha;have m1:(0:Int)<=(k:Int):=by omega
 go_wp2_with fail;refine(Di b1 o1 _ _ (a k).z _ (by omega) (by omega) ints).mono ?_;rintro e w2 ⟨g,c2,rfl,h1,h2,h3,W,D⟩;obtain⟨G,C,u,c,t⟩:=HG.out;have az:=u.lt;have h:=u.below D;have aw:=h.frozen k;have ai:=h.cell A;simp only[Nat.lt_irrefl,if_false] at ai;have af:=L.trans (D.mono L.size);have st:=af.setCell (p:=⟨w.heap.size,k,none⟩) nlr (.slice (some ⟨g,0,none⟩) (a k).n c2);have E:=h.set k (.slice (some ⟨g,0,none⟩) (a k).n c2);have J:∀i,i<k->Blk (w2.setCell ⟨w.heap.size,k,none⟩ (.slice (some ⟨g,0,none⟩) (a k).n c2)) (G i) 3 (a i).n (λj => .int .i64 ((a i).z j)):=λi hi=>((c i hi).2.2.2.below D).other (by have:=(c i hi).1;show _≠w.heap.size;omega) _;have F:Blk (w2.setCell ⟨w.heap.size,k,none⟩ (.slice (some ⟨g,0,none⟩) (a k).n c2)) g 3 (a k).n (λj => .int .i64 ((a k).z j)):=W.other (by show _≠w.heap.size;omega) _;have K:∀i,i<k->G i<g:=λi hi=>by have:=(c i hi).2.2.2.lt;omega
 have H:Hid _:=And.intro E (And.intro J (And.intro F (And.intro K (And.intro c t))));clear E J F K u h t W c;go_wp2_with fail;go_roundw
 case measure=>simp[intOf];omega
 obtain⟨E,J,F,K,c,t⟩:=H.out;refine⟨k+1,by omega,by go_num,⟨λi=>if i=k then g else G i,λi=>if i=k then c2 else C i,E.congr ?_,?_,?_⟩,st⟩
 .intro j f;by_cases d:j=k
  .subst d;simp
  by_cases P:j<k
  .simp[d,P,show j<k+1 by omega]
  simp[d,P,show ¬j<k+1 by omega]
 .intro i hi;by_cases Q:i=k
  .subst Q;simp only[if_true];exact⟨by omega,h1,h2,F⟩
  simp only[Q,if_false];have l:i<k:=by omega
  exact⟨(c i l).1,(c i l).2.1,(c i l).2.2.1,J i l⟩
 intro i j M f;by_cases d:j=k
 .subst d;simp[show ¬i=j by omega,K i M]
 simp[d,show ¬i=k by omega,t i j M (by omega)]
def pj(A:Nat)(e:TypeId)(s:Hs)(w':World)(s':Hs):Prop:=s'.n=s.n/\(∀j,j<s.n->s'.z j=s.z j)/\cy A e w' s'/\fo A w' e 4 s'.a s'.c
theorem cy.ofOwns{w:World}{base:Nat}{e:TypeId}{v:Value}{n:Nat}{z:Nat->Hd}(h:w.ownsRow base e 4 v n (ax n z))(i:v ≠ .slice none 0 0):∃s:Hs,v=s.val/\s.n=n/\s.z=z/\cy base e w s/\fo base w e 4 s.a s.c:=by
 obtain⟨g,c,rfl,d,j,b,f⟩:=Blk.ofOwns h i;exact⟨⟨some ⟨g,0,none⟩,n,c,z⟩,rfl,rfl,rfl,⟨d,j,(λe=>by cases e),λ_=>⟨g,rfl,b,f⟩⟩,fo.ofOwns h nlr⟩
theorem H6:(prog.info? 61).map (λi=>(i.zero,i.size,i.bytes))=some (some (.agg #[.int .i64 0,.int .i64 0,.int .i64 0,.int .i64 0]),4,32):=by kernel_rfl
theorem Ph(s:Hs)(w:World)(hs:s.At w)(V:s.n<=1000):
  Calls prog 138 #[s.val] w λe K=>∃d:Hs,e = .returned d.val/\pj w.heap.size 61 s K d/\Below w.heap.size w K:=by
 obtain⟨J,v,sh,f⟩:=hs;obtain⟨sa,l,T,t⟩:=s;dsimp only at J v sh f V;simp only[Hs.val];obtain⟨X,hi,S,L,G⟩:=info_parts H6;have ab:∀(w:World) (a:Option Addr) (n c D y:Nat),(binOp .eql 28 (.slice a n c) (.slice none D y)).run prog w = .ok (.bool a.isNone) w:=λw a n c D y=>Lib.run_eql_slice_nil w _ _ a n c D y underlying28;cases sa with
 | none =>
  have Q:=f rfl;subst Q;have P:l=0:=by omega
  subst P;go_enter func138,ntmps138
  go_wp2
  go_ret;exact⟨⟨none,0,0,t⟩,rfl,⟨rfl,λj r=>rfl,⟨Nat.le_refl _,Qxz _,λ_=>rfl,λh=>absurd h (Nat.lt_irrefl _)⟩,Or.inl rfl⟩,Below.refl _ _⟩
 | some ad =>
  have i:∀j u,(ax l t)[j]?=some u->w.cell? (ad.add j)=some u/\(ad.add j).block<w.heap.size:=λj u r=>by
   have x:=(List.getElem?_eq_some_iff.1 r).1;rw[ep] at x;obtain⟨b,o,F,W,-⟩:=sh 0 (by omega);simp only[Qkx] at F;subst F;exact⟨jb.news sh j u r,by rw[Go.WideShapes.add_plain];exact W⟩
  have Y:=hid i;clear i sh f;go_enter func138,ntmps138;go_wp2_with(at_builtin;refine wpList_append_own _ rfl _ _ 28 rfl w.heap.size 61 X (.agg #[.int .i64 0,.int .i64 0,.int .i64 0,.int .i64 0]) 4 32 underlying28 hi S L G rfl (by decide) _ _ _ rfl (World.ownsRow_made w #[] 0 nlr (Qxz _) rfl) ad l T (ax l t) rfl ?qc1 ?qc2 ?qc3 ?qc4 ?qc5 ?qc6 ?_)
  case qc1=>rw[ep]
  case qc2 =>
   intro j u r;have:=Y.out j u r;rw[((Below.refl w.heap.size w).alloc nlr _).cell (p:=ad.add j) this.2];exact this.1
  case qc3=>exact ma l t
  case qc4=>unfold maxLen;omega
  case qc5=>omega
  case qc6=>simp
  intro v' A q g m;have U:Below w.heap.size w A:=((Below.refl _ w).alloc nlr _).grown g (by simp) (by intro k hk;simp[Value.ownBlock] at hk;omega);obtain⟨d,rfl,E,H,M⟩:=cy.ofOwns q m;clear q g m;have B:Hid (d.n=l/\d.z=t/\cy w.heap.size 61 A d/\fo w.heap.size A 61 4 d.a d.c):=⟨E,H,M⟩;clear E H M;simp only[Hs.val]
  go_wp2
  go_ret;exact⟨d,rfl,⟨B.out.1,λj _=>by rw[B.out.2.1],B.out.2.2⟩,U⟩
theorem Ox:(prog.info? 63).map (λi=>(i.zero,i.size,i.bytes))=some (some (.agg #[.int .i64 0,.int .i64 0,.int .i64 0,.int .i64 0]),4,32):=by kernel_rfl
theorem Pi(s:Hs)(w:World)(hs:s.At w)(V:s.n<=1000):
  Calls prog 139 #[s.val] w λe K=>∃d:Hs,e = .returned d.val/\pj w.heap.size 63 s K d/\Below w.heap.size w K:=by
 obtain⟨J,v,sh,f⟩:=hs;obtain⟨sa,l,T,t⟩:=s;dsimp only at J v sh f V;simp only[Hs.val];obtain⟨X,hi,S,L,G⟩:=info_parts Ox;have ab:∀(w:World) (a:Option Addr) (n c D y:Nat),(binOp .eql 29 (.slice a n c) (.slice none D y)).run prog w = .ok (.bool a.isNone) w:=λw a n c D y=>Lib.run_eql_slice_nil w _ _ a n c D y underlying29;cases sa with
 | none =>
  have Q:=f rfl;subst Q;have P:l=0:=by omega
  subst P;go_enter func139,ntmps139
  go_wp2
  go_ret;exact⟨⟨none,0,0,t⟩,rfl,⟨rfl,λj r=>rfl,⟨Nat.le_refl _,Qxz _,λ_=>rfl,λh=>absurd h (Nat.lt_irrefl _)⟩,Or.inl rfl⟩,Below.refl _ _⟩
 | some ad =>
  have i:∀j u,(ax l t)[j]?=some u->w.cell? (ad.add j)=some u/\(ad.add j).block<w.heap.size:=λj u r=>by
   have x:=(List.getElem?_eq_some_iff.1 r).1;rw[ep] at x;obtain⟨b,o,F,W,-⟩:=sh 0 (by omega);simp only[Qkx] at F;subst F;exact⟨jb.news sh j u r,by rw[Go.WideShapes.add_plain];exact W⟩
  have Y:=hid i;clear i sh f;go_enter func139,ntmps139;go_wp2_with(at_builtin;refine wpList_append_own _ rfl _ _ 29 rfl w.heap.size 63 X (.agg #[.int .i64 0,.int .i64 0,.int .i64 0,.int .i64 0]) 4 32 underlying29 hi S L G rfl (by decide) _ _ _ rfl (World.ownsRow_made w #[] 0 nlr (Qxz _) rfl) ad l T (ax l t) rfl ?qc1 ?qc2 ?qc3 ?qc4 ?qc5 ?qc6 ?_)
  case qc1=>rw[ep]
  case qc2 =>
   intro j u r;have:=Y.out j u r;rw[((Below.refl w.heap.size w).alloc nlr _).cell (p:=ad.add j) this.2];exact this.1
  case qc3=>exact ma l t
  case qc4=>unfold maxLen;omega
  case qc5=>omega
  case qc6=>simp
  intro v' A q g m;have U:Below w.heap.size w A:=((Below.refl _ w).alloc nlr _).grown g (by simp) (by intro k hk;simp[Value.ownBlock] at hk;omega);obtain⟨d,rfl,E,H,M⟩:=cy.ofOwns q m;clear q g m;have B:Hid (d.n=l/\d.z=t/\cy w.heap.size 63 A d/\fo w.heap.size A 63 4 d.a d.c):=⟨E,H,M⟩;clear E H M;simp only[Hs.val]
  go_wp2
  go_ret;exact⟨d,rfl,⟨B.out.1,λj _=>by rw[B.out.2.1],B.out.2.2⟩,U⟩
theorem Dt:(prog.info? 59).map (λi=>(i.zero,i.size,i.bytes))=some (some (.agg #[.int .i64 0,.int .i64 0,.int .i64 0,.int .i64 0]),4,32):=by kernel_rfl
theorem Gx(s:Hs)(w:World)(hs:s.At w)(V:s.n<=1000):
  Calls prog 94 #[s.val] w λe K=>∃d:Hs,e = .returned d.val/\pj w.heap.size 59 s K d/\Below w.heap.size w K:=by
 obtain⟨J,v,sh,f⟩:=hs;obtain⟨sa,l,T,t⟩:=s;dsimp only at J v sh f V;simp only[Hs.val];obtain⟨X,hi,S,L,G⟩:=info_parts Dt;have ab:∀(w:World) (a:Option Addr) (n c D y:Nat),(binOp .eql 45 (.slice a n c) (.slice none D y)).run prog w = .ok (.bool a.isNone) w:=λw a n c D y=>Lib.run_eql_slice_nil w _ _ a n c D y underlying45;cases sa with
 | none =>
  have Q:=f rfl;subst Q;have P:l=0:=by omega
  subst P;go_enter func94,ntmps94
  go_wp2
  go_ret;exact⟨⟨none,0,0,t⟩,rfl,⟨rfl,λj r=>rfl,⟨Nat.le_refl _,Qxz _,λ_=>rfl,λh=>absurd h (Nat.lt_irrefl _)⟩,Or.inl rfl⟩,Below.refl _ _⟩
 | some ad =>
  have i:∀j u,(ax l t)[j]?=some u->w.cell? (ad.add j)=some u/\(ad.add j).block<w.heap.size:=λj u r=>by
   have x:=(List.getElem?_eq_some_iff.1 r).1;rw[ep] at x;obtain⟨b,o,F,W,-⟩:=sh 0 (by omega);simp only[Qkx] at F;subst F;exact⟨jb.news sh j u r,by rw[Go.WideShapes.add_plain];exact W⟩
  have Y:=hid i;clear i sh f;go_enter func94,ntmps94;go_wp2_with(at_builtin;refine wpList_append_own _ rfl _ _ 45 rfl w.heap.size 59 X (.agg #[.int .i64 0,.int .i64 0,.int .i64 0,.int .i64 0]) 4 32 underlying45 hi S L G rfl (by decide) _ _ _ rfl (World.ownsRow_made w #[] 0 nlr (Qxz _) rfl) ad l T (ax l t) rfl ?qc1 ?qc2 ?qc3 ?qc4 ?qc5 ?qc6 ?_)
  case qc1=>rw[ep]
  case qc2 =>
   intro j u r;have:=Y.out j u r;rw[((Below.refl w.heap.size w).alloc nlr _).cell (p:=ad.add j) this.2];exact this.1
  case qc3=>exact ma l t
  case qc4=>unfold maxLen;omega
  case qc5=>omega
  case qc6=>simp
  intro v' A q g m;have U:Below w.heap.size w A:=((Below.refl _ w).alloc nlr _).grown g (by simp) (by intro k hk;simp[Value.ownBlock] at hk;omega);obtain⟨d,rfl,E,H,M⟩:=cy.ofOwns q m;clear q g m;have B:Hid (d.n=l/\d.z=t/\cy w.heap.size 59 A d/\fo w.heap.size A 59 4 d.a d.c):=⟨E,H,M⟩;clear E H M;simp only[Hs.val]
  go_wp2
  go_ret;exact⟨d,rfl,⟨B.out.1,λj _=>by rw[B.out.2.1],B.out.2.2⟩,U⟩
structure Od where
 k:Int
 ls:Hs
def Od.val(x:Od):Value := .agg #[.int .i64 x.k,.slice x.ls.a x.ls.n x.ls.c]
def A9(w:World)(a:Option Addr)(n:Nat)(z:Nat->Od):Prop :=
 ∀i,i<n->∃b o,a=some ⟨b,o,none⟩/\b<w.heap.size/\w.cell? ⟨b,o+i*2,none⟩=some (.int .i64 (z i).k) /\
  w.cell? ⟨b,o+i*2+1,none⟩=some (.slice (z i).ls.a (z i).ls.n (z i).ls.c)/\(z i).ls.At w
theorem A9.below{w e:World}{a:Option Addr}{n:Nat}{z:Nat->Od}(h:A9 w a n z)(c:Below w.heap.size w e):A9 e a n z:=by
 intro i hi;obtain⟨b,o,j,d,g,f,k⟩:=h i hi;exact⟨b,o,j,Xzx d c.size,(c.cell (p:=⟨b,o+i*2,none⟩) d).trans g,(c.cell (p:=⟨b,o+i*2+1,none⟩) d).trans f,k.below c⟩
structure Os where
 a:Option Addr
 n:Nat
 c:Nat
 z:Nat->Od
def Os.val(s:Os):Value := .slice s.a s.n s.c
structure Os.At(w:World)(s:Os):Prop where
 le:s.n<=s.c
 cap:s.c<=maxLen
 ods:A9 w s.a s.n s.z
theorem Os.At.below{w a:World}{s:Os}(h:s.At w)(b:Below w.heap.size w a):s.At a:=⟨h.le,h.cap,h.ods.below b⟩
structure St where
 on:Sh
 os:Os
 hs:Hs
 ms:Hs
 si:Rw
 so:Rw
 sf:Rw
def St.cells(s:St):Array Value:=#[.slice s.on.a s.on.n s.on.c,.slice s.os.a s.os.n s.os.c,.slice s.hs.a s.hs.n s.hs.c,.slice s.ms.a s.ms.n s.ms.c,.slice s.si.a s.si.n s.si.c,.slice s.so.a s.so.n s.so.c,.slice s.sf.a s.sf.n s.sf.c]
def St.val(s:St):Value := .agg #[.slice s.on.a s.on.n s.on.c,.slice s.os.a s.os.n s.os.c,.slice s.hs.a s.hs.n s.hs.c,.slice s.ms.a s.ms.n s.ms.c,.slice s.si.a s.si.n s.si.c,.slice s.so.a s.so.n s.so.c,.slice s.sf.a s.sf.n s.sf.c]
structure St.At(w:World)(s:St):Prop where
 on:s.on.At w
 os:s.os.At w
 hs:s.hs.At w
 ms:s.ms.At w
 si:s.si.At w
 so:s.so.At w
 sf:s.sf.At w
theorem St.At.below{w b:World}{s:St}(h:s.At w)(a:Below w.heap.size w b):s.At b:=⟨h.on.below a,h.os.below a,h.hs.below a,h.ms.below a,h.si.below a,h.so.below a,h.sf.below a⟩
def p9(o:Od):Bool := !inB o.ls.n 1 3
def fs(s:St):Bool:=decide (4<s.os.n)||decide (8<s.ms.n)||aw s.os.n (λi=>p9 (s.os.z i))
def jy(p:Pl)(x:Hd):Bool := !inB x.o 0 ((p.ns:Int)-1) || !inB x.l 1 200 || !inB x.b 0 x.l || !inB x.n 0 x.l
def lp(p:Pl)(o:Od):Bool := !inB o.k 0 2||aw o.ls.n (λj=>jy p (o.ls.z j))
def jf(p:Pl)(s:St):Bool:=aw s.os.n (λi=>lp p (s.os.z i))
def i6(p:Pl)(s:St)(h:Hd):Bool := !inB h.o 0 ((s.os.n:Int)-1) || !inB h.l 0 (((s.os.z h.o.toNat).ls.n:Int)-1) || !inB h.b 0 ((p.nb:Int)-1)
def gj(p:Pl)(s:St):Bool := !(gw s.hs.n s.hs.z==0)||aw s.hs.n (λi=>i6 p s (s.hs.z i))
def lx(p:Pl)(m:Hd):Bool := !inB m.o 0 ((p.ns:Int)-1) || !inB m.l 0 ((p.nb:Int)-1) || !inB m.b 0 ((p.nb:Int)-1)||(m.l==m.b) || !inB m.n 1 200
def j8(p:Pl)(s:St):Bool:=aw s.ms.n (λi=>lx p (s.ms.z i))
def lr(p:Pl)(l:Rw)(low:Int):Bool:=((l.n:Int) !=(p.ns:Int))||aw l.n (λi => !inB (l.z i) low 1048576)
def fj(p:Pl)(s:St):Bool:=lr p s.si 0||lr p s.so 0||lr p s.sf (-1048576)
def jo(s:St)(h:Hd):Int:=((s.os.z h.o.toNat).ls.z h.l.toNat).o
def bw(s:St)(b g:Int):Nat->Int
 | 0=>0
 | k+1=>bw s b g k+(if (s.hs.z k).b=b/\jo s (s.hs.z k)=g then(s.hs.z k).n else 0)
def az(s:St)(b g:Int):Nat->Int
 | 0=>0
 | k+1=>az s b g k+(if (s.ms.z k).l=b/\(s.ms.z k).o=g then(s.ms.z k).n else 0)
def ar(s:St)(b g:Nat):Int:=(s.on.r b).z g-bw s b g s.hs.n-az s b g s.ms.n
def ij(p:Pl)(s:St)(g:Nat):Bool := !(cu (λi=>(s.on.r i).z g) s.on.n==s.si.z g-s.so.z g+s.sf.z g)||aw p.nb (λb=>decide (ar s b g<0))
def kw(p:Pl)(s:St):Bool:=aw p.ns (ij p s)
def jr(x:Hd):Bool := !(x.b==x.l)
def co(k:Int)(x:Hd)(kept:Int):Bool:=if k=0 then !(x.b==0) || !(x.n==0) || !(kept==0) else if k=2 then !(x.b+x.n==x.l) || !(kept==0) else !(x.b+x.n+kept==x.l)
def cf(s:St)(i:Nat):Bool:=((s.os.z i).k==1 && !aw (s.os.z i).ls.n (λj=>jr ((s.os.z i).ls.z j)))||aw (s.os.z i).ls.n (λj=>co (s.os.z i).k ((s.os.z i).ls.z j) (keptS s.hs.z i j s.hs.n))
def je(s:St):Bool:=aw s.os.n (cf s)
def ag(p:Pl)(s:St):Int :=
 if ev p s.on=0 then(if fs s then 2 else if jf p s||gj p s||j8 p s||fj p s then 1 else if kw p s||je s then 7 else 0) else ev p s.on
structure cv(p:Pl)(s:St):Prop where
 sh:um p s.on
 sh0:ev p s.on=0
 os4:s.os.n<=4
 ms8:s.ms.n<=8
 lns:∀i,i<s.os.n->1<=(s.os.z i).ls.n/\(s.os.z i).ls.n<=3
 kind:∀i,i<s.os.n->0<=(s.os.z i).k/\(s.os.z i).k<=2
 line:∀i,i<s.os.n->∀j,j<(s.os.z i).ls.n->jy p ((s.os.z i).ls.z j)=false
 hold:aw s.hs.n (cz s.hs.z)=false
 home:∀i,i<s.hs.n->i6 p s (s.hs.z i)=false
 move:∀i,i<s.ms.n->lx p (s.ms.z i)=false
 sin:s.si.n=p.ns
 son:s.so.n=p.ns
 sfn:s.sf.n=p.ns
 sib:∀j,j<p.ns->0<=s.si.z j/\s.si.z j<=1048576
 sob:∀j,j<p.ns->0<=s.so.z j/\s.so.z j<=1048576
 sfb:∀j,j<p.ns -> -1048576<=s.sf.z j/\s.sf.z j<=1048576
theorem Hk{p:Pl}{l:Rw}{low:Int}(h:lr p l low=false):l.n=p.ns/\∀j,j<p.ns->low<=l.z j/\l.z j<=1048576:=by
 unfold lr at h;rw[Xxq] at h;have a:l.n=p.ns:=by have b:(l.n:Int)=(p.ns:Int):=(by simpa using h.1);omega
 refine⟨a,λj c => ?_⟩;have:=di h.2 j (by omega);simp only[Bool.not_eq_false'] at this;exact aq this
theorem formed{p:Pl}{s:St}(m:ev p s.on=0)(k:fs s=false)(u:jf p s=false)(h:gj p s=false)(o:j8 p s=false)(g:fj p s=false):cv p s:=by
 unfold fs at k;unfold gj at h;unfold fj at g;simp only[Xxq,decide_eq_false_iff_not] at k h g;obtain⟨a,b⟩:=Hk g.1.1;obtain⟨c,d⟩:=Hk g.1.2;obtain⟨e,f⟩:=Hk g.2;have l:∀i,i<s.os.n->lp p (s.os.z i)=false:=di u;refine⟨(uq m).2,m,by omega,by omega,λi hi => ?_,λi hi => ?_,λi hi j q => ?_,?_,di h.2,di o,a,c,e,b,d,f⟩
 .have:=di k.2 i hi;simp only[p9,Bool.not_eq_false'] at this;have:=aq this;omega
 .have:=l i hi;simp only[lp,Xxq,Bool.not_eq_false'] at this;exact aq this.1
 .have:=l i hi;simp only[lp,Xxq] at this;exact di this.2 j q
 have t:=h.1;cases r:aw s.hs.n (cz s.hs.z)
 .rfl
 simp[gw,r] at t
theorem iq{p:Pl}{s:St}{h:Hd}(e:i6 p s h=false):(0<=h.o/\h.o.toNat<s.os.n)/\(0<=h.l/\h.l.toNat<(s.os.z h.o.toNat).ls.n)/\0<=h.b/\h.b<p.nb:=by
 simp only[i6,Xxq,Bool.not_eq_false'] at e;obtain⟨⟨a,b⟩,c⟩:=e;have:=aq a;have:=aq b;have:=aq c;omega
theorem qn{p:Pl}{m:Hd}(e:lx p m=false):(0<=m.o/\m.o<p.ns)/\(0<=m.l/\m.l<p.nb)/\(0<=m.b/\m.b<p.nb)/\¬m.l=m.b/\1<=m.n/\m.n<=200:=by
 simp only[lx,Xxq,Bool.not_eq_false',beq_eq_false_iff_ne,ne_eq] at e;obtain⟨⟨⟨⟨a,b⟩,c⟩,d⟩,f⟩:=e;have:=aq a;have:=aq b;have:=aq c;have:=aq f;omega
theorem dz{p:Pl}{x:Hd}(e:jy p x=false):(0<=x.o/\x.o<p.ns)/\(1<=x.l/\x.l<=200)/\(0<=x.b/\x.b<=x.l)/\0<=x.n/\x.n<=x.l:=by
 simp only[jy,Xxq,Bool.not_eq_false'] at e;obtain⟨⟨⟨a,b⟩,c⟩,d⟩:=e;have:=aq a;have:=aq b;have:=aq c;have:=aq d;omega
theorem mr{s:St}{b g:Int}:∀{n:Nat},(∀j,j<n->1<=(s.hs.z j).n/\(s.hs.z j).n<=200)->0<=bw s b g n/\bw s b g n<=200*n
 | 0,_=>by simp[bw]
 | n+1,h=>by
  have a:=mr (b:=b) (g:=g) (n:=n) λj c=>h j (by omega);have:=h n (by omega);simp only[bw]
  split<;>omega
theorem jq{s:St}{b g:Int}:∀{n:Nat},(∀j,j<n->1<=(s.ms.z j).n/\(s.ms.z j).n<=200)->0<=az s b g n/\az s b g n<=200*n
 | 0,_=>by simp[az]
 | n+1,h=>by
  have a:=jq (b:=b) (g:=g) (n:=n) λj c=>h j (by omega);have:=h n (by omega);simp only[az]
  split<;>omega
theorem cv.holdN{p:Pl}{s:St}(f:cv p s):∀j,j<s.hs.n->1<=(s.hs.z j).n/\(s.hs.z j).n<=200:=λj a=>(cx (ca f.hold j a)).2.2.2
theorem cv.moveN{p:Pl}{s:St}(f:cv p s):∀j,j<s.ms.n->1<=(s.ms.z j).n/\(s.ms.z j).n<=200:=λj a=>(qn (f.move j a)).2.2.2.2
theorem cv.hs72{p:Pl}{s:St}(f:cv p s):s.hs.n<=72:=wh f.hold
structure au(p:Pl)(s:St):Prop where
 fm:cv p s
 goods:∀g,g<p.ns->ij p s g=false
 orders:∀i,i<s.os.n->cf s i=false
theorem ed{p:Pl}{s:St}(h:ag p s=0):au p s:=by
 unfold ag at h;by_cases c:ev p s.on=0
 .rw[if_pos c] at h;cases d:fs s
  .rw[d] at h;cases a:(jf p s||gj p s||j8 p s||fj p s)
   .rw[a] at h;cases b:(kw p s||je s)
    .simp only[Xxq] at a b;exact⟨formed c d a.1.1.1 a.1.1.2 a.1.2 a.2,di b.1,di b.2⟩
    rw[b] at h;simp at h
   rw[a] at h;simp at h
  rw[d] at h;simp at h
 rw[if_neg c] at h;exact absurd h c
def py(x:Od):List Value:=[.int .i64 x.k,.slice x.ls.a x.ls.n x.ls.c]
def jh:Nat->(Nat->Od)->List Value
 | 0,_=>[]
 | n+1,z=>jh n z++py (z n)
theorem sl:∀(n:Nat) (z:Nat->Od),(jh n z).length=n*2
 | 0,_=>rfl
 | n+1,z=>by rw[jh,List.length_append,sl n z];simp[py];omega
theorem H5:∀(n:Nat) (z:Nat->Od) (i c:Nat),i<n->c<2->(jh n z)[i*2+c]?=(py (z i))[c]?
 | 0,_,i,c,hi,_=>absurd hi (Qzq _)
 | n+1,z,i,c,hi,hc=>by
  rw[jh];by_cases h:i=n
  .subst h;rw[List.getElem?_append_right (by rw[sl];omega),sl]
   congr 1
   omega
  rw[List.getElem?_append_left (by rw[sl];omega)];exact H5 n z i c (by omega) hc
theorem pa{n:Nat}{z:Nat->Od}{i c:Nat}(hi:i<n)(hc:c<2):(jh n z).getD (i*2+c) default=(py (z i)).getD c default:=by
 simp only[List.getD,H5 n z i c hi hc]
theorem Oq:∀(n:Nat) (z:Nat->Od),∀u∈jh n z,u.oneCell'=true
 | 0,_,u,a=>by simp[jh] at a
 | n+1,z,u,a=>by
  rw[jh,List.mem_append] at a;rcases a with a|a
  .exact Oq n z u a
  simp only[py,List.mem_cons,List.not_mem_nil,or_false] at a;rcases a with rfl|rfl<;>rfl
theorem A9.news{w:World}{b o n:Nat}{z:Nat->Od}(h:A9 w (some ⟨b,o,none⟩) n z):∀j u,(jh n z)[j]?=some u->w.cell? ((⟨b,o,none⟩:Addr).add j)=some u:=by
 intro j u a;have d:=(List.getElem?_eq_some_iff.1 a).1;rw[sl] at d;obtain⟨k,l,e,i,g,f,-⟩:=h (j/2) (by omega);simp only[Qkx,Qkz,and_true] at e;obtain⟨rfl,rfl⟩:=e;rw[Go.WideShapes.add_plain];have hd:j=j/2*2+j%2:=by omega
 rw[hd,H5 n z (j/2) (j%2) (by omega) (by omega)] at a;have c:j%2=0\/j%2=1:=by omega
 rcases c with c|c
 .rw[c] at a;simp[py] at a;rw[<-a,<-g];congr 2;omega
 rw[c] at a;simp[py] at a;rw[<-a,<-f];congr 2;omega
theorem Cg:(prog.info? 57).map (λi=>(i.zero,i.size,i.bytes))=some (some (.agg #[.int .i64 0,.slice none 0 0]),2,32):=by kernel_rfl
def S3(s:Os)(A:Nat)(w':World)(a':Option Addr)(c':Nat):Prop:=s.n<=c'/\c'<=maxLen/\(0<s.n->∃g,a'=some ⟨g,0,none⟩/\A<=g/\Blk w' g 57 (s.n*2) (λj=>(jh s.n s.z).getD j default))/\fo A w' 57 2 a' c'
theorem M6(s:Os)(w:World)(hs:s.At w)(S:s.n<=1000):
  Calls prog 160 #[s.val] w λe E=>∃a' d,e = .returned (.slice a' s.n d)/\S3 s w.heap.size E a' d/\Below w.heap.size w E:=by
 obtain⟨D,x,sh⟩:=hs;obtain⟨sa,f,A,v⟩:=s;dsimp only at D x sh S;simp only[Os.val];obtain⟨U,hi,K,F,B⟩:=info_parts Cg;have Y:∀(w:World) (a:Option Addr) (n c z d:Nat),(binOp .eql 27 (.slice a n c) (.slice none z d)).run prog w = .ok (.bool a.isNone) w:=λw a n c z d=>Lib.run_eql_slice_nil w _ _ a n c z d underlying27;cases sa with
 | none =>
  have H:f=0:=by
   rcases Nat.eq_zero_or_pos f with h|h
   .exact h
   obtain⟨b,o,r,_⟩:=sh 0 h;cases r
  subst H;go_enter func160,ntmps160
  go_wp2
  go_ret;exact⟨none,0,rfl,⟨Nat.le_refl _,Qxz _,λh=>absurd h (Nat.lt_irrefl _),Or.inl rfl⟩,Below.refl _ _⟩
 | some ad =>
  have V:Hid (∀j u,(jh f v)[j]?=some u->w.cell? (ad.add j)=some u/\(ad.add j).block<w.heap.size):=λj u t=>by
   have y:=(List.getElem?_eq_some_iff.1 t).1;rw[sl] at y;obtain⟨b,o,r,T,-⟩:=sh 0 (by omega);simp only[Qkx] at r;subst r;exact⟨A9.news sh j u t,by rw[Go.WideShapes.add_plain];exact T⟩
  clear sh;go_enter func160,ntmps160;go_wp2_with(at_builtin;refine wpList_append_own _ rfl _ _ 27 rfl w.heap.size 57 U (.agg #[.int .i64 0,.slice none 0 0]) 2 32 underlying27 hi K F B rfl (by decide) _ _ _ rfl (World.ownsRow_made w #[] 0 nlr (Qxz _) rfl) ad f A (jh f v) rfl ?qc1 ?qc2 ?qc3 ?qc4 ?qc5 ?qc6 ?_)
  case qc1=>rw[sl]
  case qc2 =>
   intro j u t;have:=V.out j u t;rw[((Below.refl w.heap.size w).alloc nlr _).cell (p:=ad.add j) this.2];exact this.1
  case qc3=>exact Oq f v
  case qc4=>unfold maxLen;omega
  case qc5=>omega
  case qc6=>simp
  intro v' J i m q;have P:Below w.heap.size w J:=((Below.refl _ w).alloc nlr _).grown m (by simp) (by intro k W;simp[Value.ownBlock] at W;omega);obtain⟨g,d,rfl,L,Q,M,G⟩:=Blk.ofOwns i q;have l:=fo.ofOwns i nlr;clear i m q;have X:Hid (S3 ⟨some ad,f,A,v⟩ w.heap.size J (some ⟨g,0,none⟩) d):=⟨L,Q,λ_=>⟨g,rfl,M,G⟩,l⟩;clear G l
  go_wp2
  go_ret;exact⟨some ⟨g,0,none⟩,d,rfl,X.out,P⟩
structure j7(A:Nat)(w:World)(s:Os):Prop where
 le:s.n<=s.c
 cap:s.c<=maxLen
 list:0<s.n->∃g,s.a=some ⟨g,0,none⟩/\A<=g/\Blk w g 57 (s.n*2) (λj=>(jh s.n s.z).getD j default)
 lines:∀i,i<s.n->∃B,(s.z i).ls.a=some ⟨B,0,none⟩/\A<=B/\(s.z i).ls.n<=(s.z i).ls.c/\(s.z i).ls.c<=maxLen/\Blk w B 59 ((s.z i).ls.n*4) (λj=>(ax (s.z i).ls.n (s.z i).ls.z).getD j default)
 apart:∀i j,i<j->j<s.n->(s.z i).ls.a≠(s.z j).ls.a
 room:fo A w 57 2 s.a s.c
theorem j7.at{A:Nat}{w:World}{s:Os}(h:j7 A w s):s.At w:=by
 refine⟨h.le,h.cap,λi hi => ?_⟩;obtain⟨g,m,o,a⟩:=h.list (by omega);obtain⟨B,d,c,n,l,f⟩:=h.lines i hi;have b:=a.cell (j:=i*2) (by omega);have c1:=a.cell (j:=i*2+1) (by omega);have e0:=pa (z:=s.z) hi (show 0<2 by decide);have k:=pa (z:=s.z) hi (show 1<2 by decide);rw[Nat.add_zero] at e0;rw[e0] at b;rw[k] at c1;refine⟨g,0,m,a.lt,by rw[Nat.zero_add];exact b,by rw[Nat.zero_add];exact c1,?_⟩;exact cy.at (A:=A) (e:=59) ⟨n,l,(λe=>by rw[d] at e;cases e),λ_=>⟨B,d,c,f⟩⟩
def Ts(s t:Os):Prop:=s.n=t.n/\∀i,i<s.n->(s.z i).k=(t.z i).k/\(s.z i).ls.n=(t.z i).ls.n/\∀j,j<(s.z i).ls.n->(s.z i).ls.z j=(t.z i).ls.z j
def me(s:Os)(k:Nat)(B C:Nat->Nat)(i:Nat):Od:=if i<k then ⟨(s.z i).k,⟨some ⟨B i,0,none⟩,(s.z i).ls.n,C i,(s.z i).ls.z⟩⟩ else s.z i
def aa2(s:Os)(A:Nat)(a':Option Addr)(c' k:Nat)(wk:World):Prop:=fo A wk 57 2 a' c'/\∃B C:Nat->Nat,(0<s.n->∃g,a'=some ⟨g,0,none⟩/\A<=g/\Blk wk g 57 (s.n*2) (λj=>(jh s.n (me s k B C)).getD j default)) /\
 (∀i,i<k->A<=B i/\(s.z i).ls.n<=C i/\C i<=maxLen/\Blk wk (B i) 59 ((s.z i).ls.n*4) (λj=>(ax (s.z i).ls.n (s.z i).ls.z).getD j default))/\(∀i j,i<j->j<k->B i<B j)
theorem ye:∀{n:Nat} {z z':Nat->Od},(∀i,i<n->py (z i)=py (z' i))->jh n z=jh n z'
 | 0,_,_,_=>rfl
 | n+1,z,z',h=>by rw[jh,jh,ye (n:=n) λi hi=>h i (by omega),h n (by omega)]
theorem Y6{s:Os}{k:Nat}{B C:Nat->Nat}{a b:Nat}(p:k<s.n)(j:Nat)(o:j<s.n*2):
  (if j=k*2+1 then Value.slice (some ⟨a,0,none⟩) (s.z k).ls.n b else(jh s.n (me s k B C)).getD j default)=(jh s.n (me s (k+1) (λi=>if i=k then a else B i) (λi=>if i=k then b else C i))).getD j default:=by
 have hd:j=j/2*2+j%2:=by omega
 have d:j%2=0\/j%2=1:=by omega
 have hi:j/2<s.n:=by omega
 have f:=pa (z:=me s k B C) hi (show j%2<2 by omega);have g:=pa (z:=me s (k+1) (λi=>if i=k then a else B i) (λi=>if i=k then b else C i)) hi (show j%2<2 by omega);rw[<-hd] at f g;rw[f,g];by_cases c:j/2=k
 .have l:me s k B C (j/2)=s.z k:=by unfold me;rw[if_neg (by omega),c]
  have h:me s (k+1) (λi=>if i=k then a else B i) (λi=>if i=k then b else C i) (j/2)=⟨(s.z k).k,⟨some ⟨a,0,none⟩,(s.z k).ls.n,b,(s.z k).ls.z⟩⟩:=by unfold me;rw[if_pos (by omega)];simp[c]
  rw[l,h];rcases d with d|d
  .rw[if_neg (by omega),d];rfl
  rw[if_pos (by omega),d];rfl
 rw[if_neg (by omega)];have m:me s k B C (j/2)=me s (k+1) (λi=>if i=k then a else B i) (λi=>if i=k then b else C i) (j/2):=by
  unfold me;by_cases e:j/2<k
  .rw[if_pos e,if_pos (by omega)];simp[c]
  rw[if_neg e,if_neg (by omega)]
 rw[m]
theorem Nh(s:Os)(w:World)(hs:s.At w)(hn:s.n<=1000)(hl:∀i,i<s.n->1<=(s.z i).ls.n/\(s.z i).ls.n<=3):
  Calls prog 137 #[s.val] w λe w'=>∃H:Os,e = .returned H.val/\Ts H s/\j7 w.heap.size w' H/\Below w.heap.size w w':=by
 have HS:=hid hs;have HL:=hid hl;have bf:=hs.le;have ae:=hs.cap;unfold maxLen at ae;clear hs hl;simp only[Os.val];go_enter func137,ntmps137;go_wp2_with fail;refine(M6 s w HS.out hn).mono ?_;rintro e w1 ⟨a',c',rfl,E,X⟩;have u:=hid E;clear E;have c1:=u.out.1;have c2:=u.out.2.1;unfold maxLen at c2;go_wp2_with fail
 go_loopw [10] (λi wk=>∃k:Nat,k<=s.n/\i = .int .i64 k/\Hid (aa2 s w.heap.size a' c' k wk)/\Below w.heap.size w wk) (λi _=>s.n-(intOf i).toNat)
 case atStart =>
  refine⟨0,Qxz _,rfl,⟨u.out.2.2.2,λ_=>0,λ_=>0,λh => ?_,λi hi=>absurd hi (Qzq _),λi j _ t=>absurd t (Qzq _)⟩,X⟩;obtain⟨g,S,V,e3⟩:=u.out.2.2.1 h;exact⟨g,S,V,e3.congr (λj t=>by rw[ye (z':=me s 0 (λ_=>0) (λ_=>0)) λi hi=>by unfold me;rw[if_neg (by omega)]])⟩
 clear X;obtain⟨k,hk,rfl,HG,M⟩:=hrel;by_cases F:k<s.n;rotate_left
 .have ao:k=s.n:=by omega
  subst ao;go_wp2_with fail;go_ret;obtain⟨d,B,C,D,q,r⟩:=HG.out;refine⟨⟨a',s.n,c',me s s.n B C⟩,rfl,⟨rfl,λi hi => ?_⟩,⟨c1,u.out.2.1,D,λi hi => ?_,λi j A t => ?_,d⟩,M⟩
  .have y:i<s.n:=hi;have m:me s s.n B C i=⟨(s.z i).k,⟨some ⟨B i,0,none⟩,(s.z i).ls.n,C i,(s.z i).ls.z⟩⟩:=by unfold me;rw[if_pos y]
   show(me s s.n B C i).k=_/\(me s s.n B C i).ls.n=_/\_;rw[m];exact⟨rfl,rfl,λj _=>by show(me s s.n B C i).ls.z j=_;rw[m]⟩
  .have y:i<s.n:=hi;have m:me s s.n B C i=⟨(s.z i).k,⟨some ⟨B i,0,none⟩,(s.z i).ls.n,C i,(s.z i).ls.z⟩⟩:=by unfold me;rw[if_pos y]
   show ∃B',(me s s.n B C i).ls.a=_/\_/\(me s s.n B C i).ls.n<=(me s s.n B C i).ls.c/\(me s s.n B C i).ls.c<=maxLen/\Blk _ B' _ ((me s s.n B C i).ls.n*4) (λj=>(ax (me s s.n B C i).ls.n (me s s.n B C i).ls.z).getD j default);rw[m];obtain⟨r1,r2,r3,r4⟩:=q i y;exact⟨B i,rfl,r1,r2,r3,r4⟩
  have ab:j<s.n:=t;show(me s s.n B C i).ls.a≠(me s s.n B C j).ls.a;unfold me;rw[if_pos (by omega),if_pos ab];have:=r i j A ab;simp only[ne_eq,Qkx,Qkz,and_true];omega
 obtain⟨b,o,W,hb,z0,z1,Y⟩:=(HS.out.below M).ods k F;have qk:(0:Int)<=(k:Int):=by omega
 obtain⟨d,B,C,D,q,r⟩:=HG.out;have aq:=hid d;obtain⟨g,L,hA,gb⟩:=D (by omega);have T:=qa3 q r L;have aa:=hid gb;have ba:=HL.out k F;have x:=(Below.refl wr.heap.size wr).alloc nlr (.cells #[.int .i64 (s.z k).k,.slice (s.z k).ls.a (s.z k).ls.n (s.z k).ls.c] 57);have Q:=Y.below x;rw[W,L];clear W L D q r gb HG Y d;go_wp2_with fail;refine(Gx (s.z k).ls _ Q (by omega)).mono ?_;rintro e U ⟨H,rfl,E,ac⟩;obtain⟨a9,bg,v,bh⟩:=H;obtain⟨S,V,⟨o1,o2,o3,o4⟩,-⟩:=E;dsimp only at S V o1 o2 o3 o4;subst S;obtain⟨G,e3,be,kB⟩:=o4 (by omega);subst e3;have K:Blk U G 59 ((s.z k).ls.n*4) (λj=>(ax (s.z k).ls.n (s.z k).ls.z).getD j default):=kB.congr (λj t=>by rw[my V]);have l:=x.trans (ac.mono x.size);have f:=aa.out.below l;have bc:=x.size;have hf:=f.frozen (k*2+1);have hc:=f.cell (j:=k*2+1) (by omega);rw[pa (z:=me s k B C) F (show 1<2 by decide)] at hc;have hm:me s k B C k=s.z k:=by unfold me;rw[if_neg (by omega)]
 rw[hm] at hc;have bd:U.cell? ⟨g,k*2+1,none⟩=some (.slice (s.z k).ls.a (s.z k).ls.n (s.z k).ls.c):=hc;have bb:=f.lt;have J:=M.trans (l.mono M.size);have KB:=f.set (k*2+1) (.slice (some ⟨G,0,none⟩) (s.z k).ls.n v);have HN:Hid (aa2 s w.heap.size (some ⟨g,0,none⟩) c' (k+1) (U.setCell ⟨g,k*2+1,none⟩ (.slice (some ⟨G,0,none⟩) (s.z k).ls.n v))/\Below w.heap.size w (U.setCell ⟨g,k*2+1,none⟩ (.slice (some ⟨G,0,none⟩) (s.z k).ls.n v))):=by
  refine⟨⟨(by have h:=(aq.out.below l).set g (k*2+1) (.slice (some ⟨G,0,none⟩) (s.z k).ls.n v);rw[T.out.2.2] at h;exact h),λi=>if i=k then G else B i,λi=>if i=k then v else C i,λ_=>⟨g,rfl,hA,KB.congr (λj t=>Y6 F j t)⟩,λi hi => ?_,λi j A t => ?_⟩,J.setCell (p:=⟨g,k*2+1,none⟩) hA _⟩
  .dsimp only;by_cases P:i=k
   .subst P;rw[if_pos rfl,if_pos rfl];exact⟨by have:=M.size;omega,o1,o2,K.other (a:=⟨g,i*2+1,none⟩) (Blk.ne2 K f (by decide)) _⟩
   rw[if_neg P,if_neg P];obtain⟨r1,r2,r3,r4⟩:=T.out.1 i (by omega);have r5:=r4.below l;exact⟨r1,r2,r3,r5.other (a:=⟨g,k*2+1,none⟩) (Blk.ne2 r5 f (by decide)) _⟩
  dsimp only;by_cases ad:j=k
  .subst ad;rw[if_neg (by omega),if_pos rfl];have:=(T.out.1 i A).2.2.2.lt;omega
  rw[if_neg (by omega),if_neg ad];exact T.out.2.1 i j A (by omega)
 clear KB kB K f hc hm l aa ac Q J;simp only[Hs.val];go_wp2_with fail;go_roundw
 case rel=>exact⟨k+1,by omega,by go_num,HN.out.1,HN.out.2⟩
 case measure=>simp[intOf];omega
def ack:Nat->Bin
 | 0=>⟨false,100,0,0⟩
 | 1=>⟨true,30,4,8⟩
 | _=>⟨false,60,0,0⟩
def acj:Nat->Int
 | 0=>2
 | _=>3
def p8(g1 g2:Nat):Pl:=⟨some ⟨g1,0,none⟩,3,3,ack,some ⟨g2,0,none⟩,2,2,acj⟩
def aab:Nat->Value:=λj=>(#[.bool false,.int .i64 100,.int .i64 0,.int .i64 0,.bool true,.int .i64 30,.int .i64 4,.int .i64 8,.bool false,.int .i64 60,.int .i64 0,.int .i64 0]:Array Value).getD j default
def aac:Nat->Value:=λj=>(#[.int .i64 2,.int .i64 3]:Array Value).getD j default
theorem X5{w:World}{c d:Nat}(a:Blk w c 68 12 aab)(e:Blk w d 3 2 aac):(p8 c d).At w:=by
 refine⟨by simp[p8],by simp[p8,maxLen],λi hi => ?_,by simp[p8],by simp[p8,maxLen],λi hi => ?_⟩
 .have b:i<3:=hi;refine⟨c,0,rfl,a.lt,?_⟩
  match i,b with
  | 0,_=>exact⟨a.k 0,a.k 1,a.k 2,a.k 3⟩
  | 1,_=>exact⟨a.k 4,a.k 5,a.k 6,a.k 7⟩
  | 2,_=>exact⟨a.k 8,a.k 9,a.k 10,a.k 11⟩
 have b:i<2:=hi;refine⟨d,0,rfl,e.lt,?_⟩
 match i,b with
 | 0,_=>exact e.k 0
 | 1,_=>exact e.k 1
theorem Rz(w:World):
  Calls prog 26 #[] w λe a=>∃g1 g2,e = .returned (p8 g1 g2).val/\w.heap.size<=g1/\g1≠g2/\Blk a g1 68 12 aab/\Blk a g2 3 2 aac/\Below w.heap.size w a:=by
 go_enter func26,ntmps26
 go_wp2
 refine Xzq (v:=(p8 (w.heap.size+1) (w.heap.size+1+1)).val) (by simp[results,results26,go_sem,p8,Pl.val]) rfl ?_;refine⟨w.heap.size+1,w.heap.size+1+1,rfl,by omega,by omega,Blk.alloc (Blk.mk' (by simp) rfl) _,Blk.mk' (by simp) rfl,?_⟩;exact((brf.alloc nlr _).alloc (by simp) _).alloc (by simp;omega) _
def onZ:Nat->Nat->Int
 | 0,0=>5
 | 1,0=>1
 | 1,1=>2
 | _,_=>0
def onS(g:Nat)(n:Nat):Sh:=⟨some ⟨g+3,0,none⟩,n,3,λi=>⟨some ⟨g+i,0,none⟩,2,2,onZ i⟩⟩
open Go.Sort
theorem zt(r s:Rw)(w:World)(o:r.At w)(hs:s.At w)(v:r.n=s.n)(l:∀j,j<r.n->r.z j=s.z j):
  Calls prog 30 #[r.val,s.val] w λe p=>e = .returned (.bool true)/\Below w.heap.size w p:=by
 obtain⟨ra,h,F,u⟩:=r;obtain⟨sa,G,E,K⟩:=s;obtain⟨B,g,d⟩:=o;obtain⟨A,f,b⟩:=hs;dsimp only at *;subst v;have q:Hid _:=l;clear l;unfold maxLen at g f;simp only[Rw.val];go_enter func30,ntmps30;go_wp2_with fail
 go_loopw [5] (λi t=>∃k:Nat,k<=h/\i = .int .i64 k/\Below w.heap.size w t) (λi _=>h-(intOf i).toNat)
 case atStart=>exact⟨0,Qxz _,rfl,Below.refl _ _⟩
 obtain⟨k,L,rfl,c⟩:=hrel;by_cases a:k<h
 .obtain⟨b1,J,rfl,y,x⟩:=(d.below c) k a;obtain⟨b2,H,rfl,D,m⟩:=(b.below c) k a;rw[<-q.out k a] at m
  generalize u k=Z at x m
  go_wp2_with fail
  go_quiet (fail)
  go_wp2_with fail;go_roundw
  case rel=>exact⟨k+1,by omega,by go_num,below_drewN c _⟩
  case measure=>simp[intOf];omega
 go_wp2_with fail;go_ret;exact⟨rfl,c⟩
theorem P8(r s:Sh)(w:World)(v:r.At w)(hs:s.At w)(D:r.n=s.n)(o:∀i,i<r.n->(r.r i).n=(s.r i).n/\∀j,j<(r.r i).n->(r.r i).z j=(s.r i).z j):
  Calls prog 28 #[r.val,s.val] w λe x=>e = .returned (.bool true)/\Below w.heap.size w x:=by
 obtain⟨ra,l,S,B⟩:=r;obtain⟨sa,T,P,F⟩:=s;obtain⟨L,h,c⟩:=v;obtain⟨K,f,d⟩:=hs;dsimp only at *;subst D;have y:Hid _:=o;clear o;unfold maxLen at h f;simp only[Sh.val];go_enter func28,ntmps28;go_wp2_with fail
 go_loopw [5] (λi A=>∃k:Nat,k<=l/\i = .int .i64 k/\Below w.heap.size w A) (λi _=>l-(intOf i).toNat)
 case atStart=>exact⟨0,Qxz _,rfl,Below.refl _ _⟩
 obtain⟨k,X,rfl,a⟩:=hrel;by_cases b:k<l;rotate_left
 .go_wp2_with fail;go_ret;exact⟨rfl,a⟩
 obtain⟨b1,V,rfl,H,E,t⟩:=(c.below a) k b;obtain⟨b2,U,rfl,M,G,p⟩:=(d.below a) k b;have m:=y.out k b;have u:Hid _:=m;clear m;have Y:=Qqq E;have W:=Qqq G;go_wp2_with fail;refine Qxq (by kernel_rfl) (by kernel_rfl) ?_
 repeat(go_big_quiet_step((go_at_call 30;exact Xxz (zt (B k) (F k) _ (t.below (Qxx _ _ _)) (p.below (Qxx _ _ _)) u.out.1 u.out.2))))
 refine Qqz ?_;intro _ q;obtain⟨⟨Q,J⟩,g⟩:=q;subst g;go_wp2_with fail;go_roundw
 case rel=>exact⟨k+1,by omega,by go_num,a.trans ((Qxx _ _ _).mono a.size)⟩
 case measure=>simp[intOf];omega
theorem Blk.ne{w:World}{g b:Nat}{e d:TypeId}{n k:Nat}{f f':Nat->Value}(h:Blk w g e n f)(j:Blk w b d k f')(i:e≠d):g≠b:=by
 rintro rfl;obtain⟨c,hc,_⟩:=h;obtain⟨l,a,_⟩:=j;rw[hc] at a;cases a;exact i rfl
theorem Xk(s:Sh)(w:World)(hs:s.At w)(hn:s.n<=6)(bg:1<=s.n)(hr:∀i,i<s.n->1<=(s.r i).n/\(s.r i).n<=3):
  Calls prog 52 #[s.val] w λe w'=>∃(g c:Nat) (G C:Nat->Nat),e = .returned (.slice (some ⟨g,0,none⟩) s.n c)/\w.heap.size<=g/\s.n<=c/\c<=maxLen /\
   Blk w' g 23 s.n (λi => .slice (some ⟨G i,0,none⟩) (s.r i).n (C i)) /\
   (∀i,i<s.n->w.heap.size<=G i/\(s.r i).n<=C i/\C i<=maxLen/\Blk w' (G i) 3 (s.r i).n (λj => .int .i64 ((s.r i).z j))) /\
   (∀i j,i<j->j<s.n->G i<G j)/\Below w.heap.size w w':=by
 obtain⟨a8,M,rows⟩:=hs;obtain⟨s0,X,sc,d⟩:=s;dsimp only at a8 M rows hn hr bg;unfold maxLen at M;simp only[Sh.val];obtain⟨i0,hi,ay,bd,a7⟩:=info_parts Q6;obtain⟨i1,a,a6,bb,bi⟩:=info_parts Ex;go_enter func52,ntmps52;go_wp2_with fail
 go_loopw [3,4] (λv i wk=>∃k:Nat,k<=X/\i = .int .i64 k/\(∃(G C:Nat->Nat),wk.ownsRow w.heap.size 23 1 v k ((List.range k).map λi=>Value.slice (some ⟨G i,0,none⟩) (d i).n (C i)) /\
   (∀i,i<k->w.heap.size<=G i/\(d i).n<=C i/\C i<=maxLen/\Blk wk (G i) 3 (d i).n (λj => .int .i64 ((d i).z j))) /\
   (∀i j,i<j->j<k->G i<G j))/\Below w.heap.size w wk) (λ_ i _=>X-(intOf i).toNat)
 case atStart=>exact⟨0,Qxz _,rfl,⟨λ_=>0,λ_=>0,World.ownsRow_nil _ _ _ _,λi hi=>absurd hi (Qzq _),λi j _ a=>absurd a (Qzq _)⟩,Below.refl _ _⟩
 obtain⟨k,hk,rfl,V,K⟩:=hrel;by_cases aj:k<X;rotate_left
 .go_wp2_with fail;go_ret;have aw:k=X:=by omega
  subst aw;obtain⟨G,C,S,A,H⟩:=V;have hv:∃g c,u3 = .slice (some ⟨g,0,none⟩) k c:=by
   rcases S.2 with⟨_,h0⟩|⟨g2,U,ar,rfl,_⟩
   .omega
   exact⟨g2,U,rfl⟩
  obtain⟨g',bh,rfl⟩:=hv;obtain⟨g,c,ae,h1,h2,h3,J⟩:=Blk.ofOwns S (by simp);rw[Nat.mul_one] at J;simp only[Value.slice.injEq,Qkx,Qkz,and_true,true_and] at ae;obtain⟨rfl,rfl⟩:=ae;exact⟨g',bh,G,C,rfl,h3,h1,h2,J.congr (λj a=>by simp[a]),A,H,K⟩
 obtain⟨b,o,rfl,hb,z0,ax⟩:=(rows.below K) k aj;have bv:=hr k aj;obtain⟨bt,bk,ints⟩:=ax;obtain⟨b1,o1,ha,bu,y0⟩:=ints 0 (by omega);rw[ha] at z0 ints;clear y0 ha;have HG:Hid _:=V;clear V;have m1:(0:Int)<=(k:Int):=by omega
 go_wp2_with(at_builtin;refine wpList_append_own _ rfl (.tmp 12) (.tmp 16) 23 rfl wr.heap.size 3 i1 (.int .i64 0) 1 8 underlying23 a a6 bb bi rfl (by decide) _ _ _ rfl (World.ownsRow_made wr #[] 0 nlr (Qxz _) rfl) ⟨b1,o1,none⟩ (d k).n (d k).c ((List.range (d k).n).map λj=>Value.int .i64 ((d k).z j)) rfl ?qc1 ?qc2 ?qc3 ?qc4 ?qc5 ?qc6 ?_)
 case qc1=>simp
 case qc2 =>
  intro j u a;have ai:j<(d k).n:=by
   have:=(List.getElem?_eq_some_iff.1 a).1
   simpa using this
  obtain⟨b',o',he,a9,ab⟩:=ints j ai;simp only[Qkx,Qkz,and_true] at he;obtain⟨rfl,rfl⟩:=he;rw[Go.WideShapes.add_plain];rw[((Below.refl wr.heap.size wr).alloc nlr _).cell (p:=⟨b1,o1+j,none⟩) a9,ab];simp[ai] at a;rw[a]
 case qc3=>intro u hu;obtain⟨x,_,rfl⟩:=List.mem_map.1 hu;rfl
 case qc4=>unfold maxLen;omega
 case qc5=>omega
 case qc6=>simp
 intro v' T Q E W;obtain⟨g,Y,rfl,h1,h2,h3,J⟩:=Blk.ofOwns Q W;rw[Nat.mul_one] at J;have l:Below wr.heap.size wr T:=((Below.refl _ wr).alloc nlr _).grown E (by simp) (by intro k hk;simp[Value.ownBlock] at hk;omega);have h5:Blk T g 3 (d k).n (λj => .int .i64 ((d k).z j)):=J.congr (λj a=>by simp[a]);clear Q E W ints z0 J;obtain⟨G,C,S,A,H⟩:=HG.out;have F:T.ownsRow w.heap.size 23 1 u3 k ((List.range k).map λi=>Value.slice (some ⟨G i,0,none⟩) (d i).n (C i)):=S.kept (row:=none) ⟨l.os,l.tape,l.output,l.size,λj a _=>l.block j a⟩ (by cases h:u3.ownBlock<;>simp);have HR:Hid _:=And.intro A H;clear S A H HG;go_wp2_with(at_builtin;refine wpList_append_own _ rfl (.tmp 11) (.tmp 18) 26 rfl w.heap.size 23 i0 (.slice none 0 0) 1 24 underlying26 hi ay bd a7 rfl (by decide) _ _ _ rfl (F.alloc _) ⟨T.heap.size,0,none⟩ 1 1 [.slice (some ⟨g,0,none⟩) (d k).n Y] rfl rfl ?c1 ?c2 ?c3 ?c4 ?c5 ?_)
 case c1 =>
  intro j u a
  match j,a with
  | 0,a=>simp at a;subst a;simp[Addr.add]
 case c2=>intro u hu;simp at hu;subst hu;rfl
 case c3=>unfold maxLen;omega
 case c4=>omega
 case c5=>have:=K.size;have:=l.size;simp;omega
 intro v2 w2 m t ad;have B:=K.trans (l.mono K.size);have L:=F.lt;have bf:Below w.heap.size w w2:=(B.alloc (by have:=B.size;omega) _).grown t (by have:=B.size;simp;omega) (λq P=>(L q P).1);have y:∀q f n',Blk T q 3 n' f->Blk w2 q 3 n' f:=λq f n' hb=>by
  refine(hb.alloc _).grown t ?_;intro P;rcases F.2 with⟨rfl,_⟩|⟨g2,U,ar,rfl,_,ag,bj⟩
  .simp[Value.ownBlock] at P
  simp only[Value.ownBlock,Qkx] at P;subst P;obtain⟨c3,a5,_⟩:=hb;rw[a5] at ag;cases ag
 have KN:=y _ _ _ h5;have HK:Hid _:=And.intro m (And.intro KN y);clear m t ad KN y F h5 L;go_wp2_with fail;go_roundw
 case measure=>simp[intOf];omega
 obtain⟨m,KN,y⟩:=HK.out;obtain⟨A,H⟩:=HR.out;refine⟨k+1,by omega,by go_num,⟨λi=>if i=k then g else G i,λi=>if i=k then Y else C i,?_,?_,?_⟩,bf⟩
 .have e:(List.range (k+1)).map (λi=>Value.slice (some ⟨if i=k then g else G i,0,none⟩) (d i).n (if i=k then Y else C i))=((List.range k).map λi=>Value.slice (some ⟨G i,0,none⟩) (d i).n (C i))++[.slice (some ⟨g,0,none⟩) (d k).n Y]:=by
   rw[List.range_succ,List.map_append]
   congr 1
   .exact List.map_congr_left λi hi=>by have:=List.mem_range.1 hi;simp[show ¬i=k by omega]
   simp
  rw[e];exact m
 .intro i hi;by_cases ak:i=k
  .subst ak;simp only[if_true];exact⟨by have:=K.size;omega,h1,h2,KN⟩
  simp only[ak,if_false];have D:i<k:=by omega
  exact⟨(A i D).1,(A i D).2.1,(A i D).2.2.1,y _ _ _ ((A i D).2.2.2.below l)⟩
 intro i j ah a;by_cases af:j=k
 .subst af;have:=(A i ah).2.2.2.lt;simp[show ¬i=j by omega];omega
 simp[af,show ¬i=k by omega,H i j ah (by omega)]
def fp(z:Nat->Hd)(i j:Nat):Hd:=if j<i then z j else z (j+1)
def jg(n:Nat)(z:Nat->Hd)(o l b:Int):Nat:=((List.range n).find? (λi=>be (z i) o l b)).getD 0
def Bc(n:Nat)(z:Nat->Hd)(o l b:Int):Int:=if gw n z=0 then(if keptV n z o l b=0 then 4 else 0) else gw n z
def Ce(n:Nat)(z:Nat->Hd)(o l b:Int):Int:=if gw n z=0 then keptV n z o l b else 0
def Vx(n:Nat)(z:Nat->Hd)(o l b:Int)(s':Hs):Prop :=
 s'.n=(if Bc n z o l b=0 then n-1 else 0)/\∀j,j<s'.n->s'.z j=fp z (jg n z o l b) j
theorem Fs{n k:Nat}{z:Nat->Hd}{o l b:Int}(d:k<n)(h:∀j,j<k->be (z j) o l b=false)(c:be (z k) o l b=true):jg n z o l b=k:=by
 unfold jg;have e:List.range n=List.range k++(k :: (List.range (n-k-1)).map (λi=>k+1+i)):=by
  have:=@List.range_add k (n-k);rw[show k+(n-k)=n by omega] at this;rw[this,show n-k=(n-k-1)+1 by omega,List.range_succ_eq_map];simp[Function.comp_def];intro i hi;omega
 rw[e,List.find?_append];have a:(List.range k).find? (λi=>be (z i) o l b)=none:=by
  rw[List.find?_eq_none];intro x hx;simp[h x (List.mem_range.1 hx)]
 rw[a,List.find?_cons];simp[c]
theorem Dx{x:Hd}{o l b:Int}(t:Hd)(a:t.o=o/\t.l=l/\t.b=b):be x o l b=true↔l9 x t=0:=by
 rw[Qn];simp[be,a,and_assoc]
theorem Eb{n:Nat}{z:Nat->Hd}(h:gw n z=0):aw n (cz z)=false:=by
 cases a:aw n (cz z)
 .rfl
 simp[gw,a] at h
theorem Z2{n:Nat}{z:Nat->Hd}{o l b:Int}{t:Hd}{i:Nat}(g:aw n (cz z)=false)(e:t.o=o/\t.l=l/\t.b=b)(f:P6 n z t i):
  ((decide (i<n)&&decide (l9 (z i) t=0))=true->i<n/\keptV n z o l b=(z i).n/\jg n z o l b=i/\1<=(z i).n/\(z i).n<=200) /\
  ((decide (i<n)&&decide (l9 (z i) t=0))=false->keptV n z o l b=0/\∀j,j<n->be (z j) o l b=false):=by
 have lo:∀j,j<i->be (z j) o l b=false:=λj d=>by
  cases a:be (z j) o l b
  .rfl
  have:=(Dx t e).1 a;have:=f.lo j d;omega
 constructor
 .intro h;simp only[Xxx,decide_eq_true_eq] at h;have a:=(Dx (x:=z i) t e).2 h.2;have m:=(cx (ca g i h.1)).2.2.2;exact⟨h.1,mg h.1 lo a,Fs h.1 lo a,m⟩
 intro h;have no:∀j,j<n->be (z j) o l b=false:=λj d=>by
  rcases Nat.lt_trichotomy j i with c|c|c
  .exact lo j c
  .subst c;cases a:be (z j) o l b
   .rfl
   have:=(Dx t e).1 a;simp[d,this] at h
  cases a:be (z j) o l b
  .rfl
  have k:=(Dx t e).1 a;have p:=Pd g i j c d;have r:=f.hi i nlr (by omega);rw[Qn] at k;rw[Nf] at p;have q:l9 (z i) t<0:=by rw[Nf];omega
  omega
 exact⟨kc no,no⟩
theorem tr(z:Nat->Hd)(p:Nat):∀q,ax (p+q) z=ax p z++ax q (λj=>z (p+j))
 | 0=>by simp[ax]
 | q+1=>by
  rw[<-Nat.add_assoc,tx,tr z p q,tx,List.append_assoc]
theorem tw(n:Nat)(z:Nat->Hd)(i:Nat)(hi:i<n):ax (n-1) (fp z i)=ax i z++ax (n-(i+1)) (λj=>z (i+1+j)):=by
 rw[show n-1=i+(n-(i+1)) by omega,tr];rw[my (n:=i) (z:=fp z i) (z':=z) λj a=>by simp[fp,a]];rw[my (n:=n-(i+1)) (z:=λj=>fp z i (i+j)) (z':=λj=>z (i+1+j)) λj a=>by show fp z i (i+j)=_;unfold fp;rw[if_neg (by omega),show i+j+1=i+1+j by omega]]
theorem jb.cut{w:World}{a:Addr}{n c:Nat}{z:Nat->Hd}(h:jb w (some a) n z)(k:Nat)(m:k<=n)(g:n<=c):jb w (some (if c=k then a else a.add (k*4))) (n-k) (λj=>z (k+j)):=by
 intro i hi;obtain⟨b,o,d,e,p,f,q,l⟩:=h (k+i) (by omega);simp only[Qkx] at d;subst d;refine⟨b,o+k*4,?_,e,?_,?_,?_,?_⟩
 .rw[if_neg (by omega),Go.WideShapes.add_plain]
 all_goals(rw[show o+k*4+i*4=o+(k+i)*4 by omega];assumption)
theorem R2(s:Hs)(o l b:Int)(w:World)(hs:s.At w):
  Calls prog 100 #[s.val,.int .i64 o,.int .i64 l,.int .i64 b] w λe H=>∃F:Hs,e = .returned (.tuple #[F.val,.int .i64 (Ce s.n s.z o l b),.int .i64 (Bc s.n s.z o l b)])/\cy w.heap.size 61 H F/\Vx s.n s.z o l b F/\Below w.heap.size w H:=by
 have HS:=hs;obtain⟨a,n,c,z⟩:=s;obtain⟨hn,hc,hz⟩:=hs;dsimp only at hn hc hz ⊢;have av:=hc;unfold maxLen at hc;simp only[Hs.val];have K:∀H,cy w.heap.size 61 H ⟨none,0,0,z⟩:=λH=>cy.nil _ _ _ _;have NA:=hid K;clear K;go_enter func100,ntmps100;go_wp2_with fail;refine(ts ⟨a,n,c,z⟩ w HS).mono ?_;rintro e w1 ⟨rfl,J⟩;dsimp only;by_cases L:gw n z=0;rotate_left
 .have m:Hid (Ce n z o l b=0/\Bc n z o l b=gw n z):=by show _/\_;simp[Ce,Bc,L]
  go_wp2_with fail
  go_ret3
  exact⟨⟨none,0,0,z⟩,by rw[m.out.1,m.out.2];rfl,NA.out _,⟨by rw[m.out.2,if_neg L],λj r=>absurd r (Qzq _)⟩,J⟩
 have hr:=Eb L;have az:=wh hr;go_wp2_with fail;refine(Ll ⟨a,n,c,z⟩ ⟨o,l,b,0⟩ w1 (HS.below J) hr).mono ?_;rintro e t ⟨i,rfl,Y,aw⟩;dsimp only at Y ⊢;have y:=J.trans (aw.mono J.size);obtain⟨fy,fn⟩:=Z2 (o:=o) (l:=l) (b:=b) hr ⟨rfl,rfl,rfl⟩ Y;have a0:=Y.le;have X:=HS.below y;clear Y hz;cases hf:(decide (i<n)&&decide (l9 (z i) ⟨o,l,b,0⟩=0))
 .obtain⟨S,_⟩:=fn hf;have m:Hid (Ce n z o l b=0/\Bc n z o l b=4):=by show _/\_;simp[Ce,Bc,L,S]
  clear fy fn S;go_wp2_with fail
  go_ret3
  exact⟨⟨none,0,0,z⟩,by rw[m.out.1,m.out.2];rfl,NA.out _,⟨by rw[m.out.2];rfl,λj r=>absurd r (Qzq _)⟩,y⟩
 obtain⟨U,S,kI,k1,k2⟩:=fy hf;have m:Hid (Ce n z o l b=(z i).n/\Bc n z o l b=0/\jg n z o l b=i):=by
  show _/\_/\_;refine⟨by simp[Ce,L,S],?_,kI⟩;unfold Bc;rw[if_pos L,if_neg (by omega)]
 obtain⟨g,f,ha,hb,z0,z1,z2,z3⟩:=X.hds i U;dsimp only at ha z0 z1 z2 z3;subst ha;have r3:=Qqq z3;have m1:(0:Int)<=(i:Int):=by omega
 have m2:(i:Int)<(n:Int):=by omega
 have m3:(i:Int)+1<=(n:Int):=by omega
 have m4:(n:Int)<=(c:Int):=by omega
 clear fy fn S kI z0 z1 z2;go_wp2_with fail;refine pb (λH=>∃p:Regrown,H=grow (redrawn t p.d) p.os)
  ([0,1,2,3,4,5,6,9,10,11,12,13].map (λk=>(true,k))++[(false,7),(false,8),(true,14),(true,15),(false,16)]) (by kernel_rfl) (by kernel_rfl) (by kernel_rfl) (by kernel_rfl) (Qqx (brf.drew)) ?_
 refine ap 0 rfl rfl ?_
 go_big_quiet_step(fail)
 refine Qqz ?_;refine ap 1 rfl rfl ?_
 go_big_quiet_step(fail)
 refine Qqz ?_;refine ap 2 rfl rfl ?_
 go_big_quiet_step(fail)
 refine Qqz ?_;refine ap 3 rfl rfl ?_
 go_big_quiet_step(fail)
 refine Qqz ?_;refine ap 4 rfl rfl ?_
 go_big_quiet_step(fail)
 refine Qqz ?_;refine ap 5 rfl rfl ?_
 go_big_quiet_step(fail)
 refine Qqz ?_;refine ap 6 rfl rfl ?_
 go_big_quiet_step(fail)
 refine Qqz ?_;refine ap 9 rfl rfl ?_
 go_big_quiet_step(fail)
 refine Qqz ?_;refine ap 10 rfl rfl ?_
 go_big_quiet_step(fail)
 refine Qqz ?_;refine ap 11 rfl rfl ?_
 go_big_quiet_step(fail)
 refine Qqz ?_;refine ap 12 rfl rfl ?_
 go_big_quiet_step(fail)
 refine Qqz ?_;refine ap 13 rfl rfl ?_
 go_big_quiet_step(fail)
 refine Qqz ?_;refine db 7 (by decide) ?_;simp only[Qyq,Xqq,Qyx,Qyz];go_wp2_with fail
 .have aa:c=i+1:=by assumption
  have W:Hs.At t ⟨some ⟨g,f,none⟩,i,i+1,z⟩:=⟨by simp,by show i+1<=maxLen;unfold maxLen;omega,λj r=>X.hds j (by have:j<i:=r;show j<n;omega),λh=>by cases h⟩;have Q:Hs.At t ⟨some ⟨g,f,none⟩,n-(i+1),0,λj=>z (i+1+j)⟩:=⟨by simp;omega,Qxz _,λj r=>by have:j<n-(i+1):=r;omega,λh=>by cases h⟩;have D:=qa2 W Q;clear W Q;have x:Below t.heap.size t (t.alloc (.cells #[.slice (some ⟨g,f,none⟩) i (i+1),.slice (some ⟨g,f,none⟩) (n-(i+1)) (0)] 28)).drew:=(brf.alloc nlr _).drew;refine⟨Qqx x,?_⟩;refine db 8 (by decide) ?_;simp only[Qyq,Xqq,Qyx,Qyz];go_wp2_with fail;refine(Ff 2 t.heap.size 2 (λk=>if k=0 then ⟨some ⟨g,f,none⟩,i,i+1,z⟩ else ⟨some ⟨g,f,none⟩,n-(i+1),0,λj=>z (i+1+j)⟩) _ (by omega) nlr (by unfold maxLen;omega) ?_ ?_ ?_).mono ?_
  .refine Blk.below (Blk.congr (Blk.mk' rfl rfl) (λj r => ?_)) (brf.drew);have T:j=0\/j=1:=by have:j<2:=r;omega
   rcases T with rfl|rfl<;>rfl
  .intro k hk;have B:k=0\/k=1:=by omega
   rcases B with rfl|rfl
   .exact D.out.1.below x
   exact D.out.2.below x
  .intro k hk;have B:k=0\/k=1:=by omega
   rcases B with rfl|rfl
   .simp;omega
   simp;omega
  rintro e w3 ⟨v,rfl,q,V⟩;have u:w3.ownsRow (t.alloc (.cells #[.slice (some ⟨g,f,none⟩) i (i+1),.slice (some ⟨g,f,none⟩) (n-(i+1)) (0)] 28)).drew.heap.size 61 4 v (n-1) (ax (n-1) (fp z i)):=by
   have e1:tu (λk=>if k=0 then(⟨some ⟨g,f,none⟩,i,i+1,z⟩:Hs) else ⟨some ⟨g,f,none⟩,n-(i+1),0,λj=>z (i+1+j)⟩) 2=n-1:=by simp[tu];omega
   have e2:Bu (λk=>if k=0 then(⟨some ⟨g,f,none⟩,i,i+1,z⟩:Hs) else ⟨some ⟨g,f,none⟩,n-(i+1),0,λj=>z (i+1+j)⟩) 2=ax (n-1) (fp z i):=by rw[tw n z i U];simp[Bu]
   rw[e1,e2] at q;exact q
  obtain⟨F,rfl,E,M,P⟩:=cy.ofRow u (Qzx y.size x.size);have A:=x.trans (V.mono x.size);have G:=qa3 E M P;clear q u E M P;simp only[Hs.val];go_wp2_with fail;refine⟨Qqx A,?_⟩;refine ap 14 rfl rfl ?_
  go_big_quiet_step(fail)
  refine Qqz ?_;refine ap 15 rfl rfl ?_
  go_big_quiet_step(fail)
  refine Qqz ?_;refine db 16 (by decide) ?_;simp only[Qyq,Xqq,Qyx,Qyz];go_wp2_with fail;refine⟨Qqx A,?_⟩;refine NoPanic.normal ?_;go_wp2_with fail
  go_ret3
  refine⟨F,by rw[m.out.1,m.out.2.1];rfl,G.out.1,⟨by rw[m.out.2.1];exact G.out.2.1,λj r=>by rw[m.out.2.2,G.out.2.2]⟩,y.trans (A.mono y.size)⟩
 have aa:¬c=i+1:=by assumption
 have W:Hs.At t ⟨some ⟨g,f,none⟩,i,c,z⟩:=⟨by show i<=c;omega,av,λj r=>X.hds j (by have:j<i:=r;show j<n;omega),λh=>by cases h⟩;have Q:Hs.At t ⟨some ⟨g,f+(i+1)*4,none⟩,n-(i+1),c-(i+1),λj=>z (i+1+j)⟩:=⟨by show n-(i+1)<=c-(i+1);omega,by show c-(i+1)<=maxLen;omega,by
  have:=X.hds.cut (c:=c) (i+1) (by show i+1<=n;omega) hn;rw[if_neg aa,Go.WideShapes.add_plain] at this;exact this,λh=>by cases h⟩
 have D:=qa2 W Q;clear W Q;have x:Below t.heap.size t (t.alloc (.cells #[.slice (some ⟨g,f,none⟩) i (c),.slice (some ⟨g,f+(i+1)*4,none⟩) (n-(i+1)) (c-(i+1))] 28)).drew:=(brf.alloc nlr _).drew;refine⟨Qqx x,?_⟩;refine db 8 (by decide) ?_;simp only[Qyq,Xqq,Qyx,Qyz];go_wp2_with fail;refine(Ff 2 t.heap.size 2 (λk=>if k=0 then ⟨some ⟨g,f,none⟩,i,c,z⟩ else ⟨some ⟨g,f+(i+1)*4,none⟩,n-(i+1),c-(i+1),λj=>z (i+1+j)⟩) _ (by omega) nlr (by unfold maxLen;omega) ?_ ?_ ?_).mono ?_
 .refine Blk.below (Blk.congr (Blk.mk' rfl rfl) (λj r => ?_)) (brf.drew);have T:j=0\/j=1:=by have:j<2:=r;omega
  rcases T with rfl|rfl<;>rfl
 .intro k hk;have B:k=0\/k=1:=by omega
  rcases B with rfl|rfl
  .exact D.out.1.below x
  exact D.out.2.below x
 .intro k hk;have B:k=0\/k=1:=by omega
  rcases B with rfl|rfl
  .simp;omega
  simp;omega
 rintro e w3 ⟨v,rfl,q,V⟩;have u:w3.ownsRow (t.alloc (.cells #[.slice (some ⟨g,f,none⟩) i (c),.slice (some ⟨g,f+(i+1)*4,none⟩) (n-(i+1)) (c-(i+1))] 28)).drew.heap.size 61 4 v (n-1) (ax (n-1) (fp z i)):=by
  have e1:tu (λk=>if k=0 then(⟨some ⟨g,f,none⟩,i,c,z⟩:Hs) else ⟨some ⟨g,f+(i+1)*4,none⟩,n-(i+1),c-(i+1),λj=>z (i+1+j)⟩) 2=n-1:=by simp[tu];omega
  have e2:Bu (λk=>if k=0 then(⟨some ⟨g,f,none⟩,i,c,z⟩:Hs) else ⟨some ⟨g,f+(i+1)*4,none⟩,n-(i+1),c-(i+1),λj=>z (i+1+j)⟩) 2=ax (n-1) (fp z i):=by rw[tw n z i U];simp[Bu]
  rw[e1,e2] at q;exact q
 obtain⟨F,rfl,E,M,P⟩:=cy.ofRow u (Qzx y.size x.size);have A:=x.trans (V.mono x.size);have G:=qa3 E M P;clear q u E M P;simp only[Hs.val];go_wp2_with fail;refine⟨Qqx A,?_⟩;refine ap 14 rfl rfl ?_
 go_big_quiet_step(fail)
 refine Qqz ?_;refine ap 15 rfl rfl ?_
 go_big_quiet_step(fail)
 refine Qqz ?_;refine db 16 (by decide) ?_;simp only[Qyq,Xqq,Qyx,Qyz];go_wp2_with fail;refine⟨Qqx A,?_⟩;refine NoPanic.normal ?_;go_wp2_with fail
 go_ret3
 refine⟨F,by rw[m.out.1,m.out.2.1];rfl,G.out.1,⟨by rw[m.out.2.1];exact G.out.2.1,λj r=>by rw[m.out.2.2,G.out.2.2]⟩,y.trans (A.mono y.size)⟩
def jc(n:Nat)(z:Nat->Hd)(h:Hd):Nat:=((List.range n).find? (λi=>decide (0<=l9 (z i) h))).getD n
def addE(n:Nat)(z:Nat->Hd)(h:Hd):Int:=if gw n z=0 then(if gx h then(if 200<keptV n z h.o h.l h.b+h.n then 3 else 0) else 1) else gw n z
def lw(z:Nat->Hd)(i:Nat)(h:Hd)(j:Nat):Hd:=if j<i then z j else if j=i then h else z (j-1)
def qu(z:Nat->Hd)(i:Nat)(h:Hd)(j:Nat):Hd:=if j=i then h else z j
def xy(n:Nat)(z:Nat->Hd)(h:Hd):Nat->Hd:=if keptV n z h.o h.l h.b=0 then lw z (jc n z h) h else qu z (jc n z h) ⟨h.o,h.l,h.b,keptV n z h.o h.l h.b+h.n⟩
def pn(n:Nat)(z:Nat->Hd)(h:Hd):Nat:=if keptV n z h.o h.l h.b=0 then n+1 else n
def Dh(n:Nat)(z:Nat->Hd)(h:Hd)(s':Hs):Prop :=
 s'.n=(if addE n z h=0 then pn n z h else 0)/\∀j,j<s'.n->s'.z j=xy n z h j
theorem N6{n:Nat}{z:Nat->Hd}{h:Hd}{i:Nat}(a:P6 n z h i):jc n z h=i:=by
 unfold jc;by_cases hi:i<n;rotate_left
 .have c:i=n:=by have:=a.le;omega
  subst c;have b:(List.range i).find? (λq=>decide (0<=l9 (z q) h))=none:=by
   rw[List.find?_eq_none];intro x hx;have:=a.lo x (List.mem_range.1 hx);simp;omega
  rw[b]
  rfl
 have e:List.range n=List.range i++(i :: (List.range (n-i-1)).map (λq=>i+1+q)):=by
  have:=@List.range_add i (n-i);rw[show i+(n-i)=n by omega] at this;rw[this,show n-i=(n-i-1)+1 by omega,List.range_succ_eq_map];simp[Function.comp_def];intro q d;omega
 rw[e,List.find?_append];have b:(List.range i).find? (λq=>decide (0<=l9 (z q) h))=none:=by
  rw[List.find?_eq_none];intro x hx;have:=a.lo x (List.mem_range.1 hx);simp;omega
 rw[b,List.find?_cons];have:=a.hi i nlr hi;simp[this]
theorem H4(n:Nat)(z:Nat->Hd)(i:Nat)(h:Hd)(hi:i<=n):ax (n+1) (lw z i h)=ax i z++ax 1 (λ_=>h)++ax (n-i) (λj=>z (i+j)):=by
 rw[show n+1=(i+1)+(n-i) by omega,tr,tr (lw z i h) i 1]
 congr 1
 .congr 1
  .exact my λj a=>by unfold lw;rw[if_pos a]
  exact my λj a=>by
   have:j=0:=by omega
   subst this;simp[lw]
 exact my λj a=>by
  show lw z i h (i+1+j)=_;unfold lw;rw[if_neg (by omega),if_neg (by omega),show i+1+j-1=i+j by omega]
theorem Oo(n:Nat)(z:Nat->Hd)(i:Nat)(h:Hd)(hi:i<n):ax n (qu z i h)=ax i z++ax 1 (λ_=>h)++ax (n-(i+1)) (λj=>z (i+1+j)):=by
 rw[show ax n (qu z i h)=ax ((i+1)+(n-(i+1))) (qu z i h) by rw[show(i+1)+(n-(i+1))=n by omega],tr,tr (qu z i h) i 1]
 congr 1
 .congr 1
  .exact my λj a=>by unfold qu;rw[if_neg (by omega)]
  exact my λj a=>by
   have:j=0:=by omega
   subst this;simp[qu]
 exact my λj a=>by
  show qu z i h (i+1+j)=_;unfold qu;rw[if_neg (by omega)]
theorem Hs.one{w:World}{g:Nat}{h:Hd}{e:TypeId}(a:Blk w g e 4 (λj=>(#[.int .i64 h.o,.int .i64 h.l,.int .i64 h.b,.int .i64 h.n]:Array Value).getD j default)):Hs.At w ⟨some ⟨g,0,none⟩,1,1,λ_=>h⟩:=by
 refine⟨Nat.le_refl _,by show 1<=maxLen;unfold maxLen;omega,λi hi => ?_,λh=>by cases h⟩;have c:i=0:=by have:i<1:=hi;omega
 subst c;exact⟨g,0,rfl,a.lt,a.k 0,a.k 1,a.k 2,a.k 3⟩
theorem Eo(s0 d:Hs)(h:Hd)(w:World)(m:Nat)(f:Nat->Hd)(B:s0.At w)(F:d.At w)(n0:s0.n<=100)(n2:d.n<=100)(G:s0.n+1+d.n=m)(A:ax s0.n s0.z++(dg h++ax d.n d.z)=ax m f):
  Calls prog 147 #[.slice (some ⟨w.heap.size+1,0,none⟩) 3 3] ((w.alloc (.cells #[.int .i64 h.o,.int .i64 h.l,.int .i64 h.b,.int .i64 h.n] 61)).alloc (.cells #[.slice s0.a s0.n s0.c,.slice (some ⟨w.heap.size,0,none⟩) 1 1,.slice d.a d.n d.c] 28)).drew λe t =>
   ∃g:Hs,e = .returned g.val/\cy w.heap.size 61 t g/\g.n=m/\g.z=f/\Below w.heap.size w t:=by
 have i:Below w.heap.size w ((w.alloc (.cells #[.int .i64 h.o,.int .i64 h.l,.int .i64 h.b,.int .i64 h.n] 61)).alloc (.cells #[.slice s0.a s0.n s0.c,.slice (some ⟨w.heap.size,0,none⟩) 1 1,.slice d.a d.n d.c] 28)).drew:=((brf.alloc nlr _).alloc (by simp) _).drew;refine(Ff 3 (w.heap.size+1) 3 (λk=>if k=0 then s0 else if k=1 then ⟨some ⟨w.heap.size,0,none⟩,1,1,λ_=>h⟩ else d) _ (by omega) nlr (by unfold maxLen;omega) ?_ ?_ ?_).mono ?_
 .refine Blk.below (Blk.congr (Blk.mk' (by simp) rfl) (λj x => ?_)) (brf.drew);have s:j=0\/j=1\/j=2:=by have:j<3:=x;omega
  rcases s with rfl|rfl|rfl<;>rfl
 .intro k E;have p:k=0\/k=1\/k=2:=by omega
  rcases p with rfl|rfl|rfl
  .exact B.below i
  .exact Hs.one (Blk.below (Blk.alloc (Blk.mk' rfl rfl) _) (brf.drew))
  exact F.below i
 .intro k E;have p:k=0\/k=1\/k=2:=by omega
  rcases p with rfl|rfl|rfl
  .exact n0
  .show 1<=100;omega
  exact n2
 rintro e H ⟨v,rfl,q,u⟩;have c1:tu (λk=>if k=0 then s0 else if k=1 then(⟨some ⟨w.heap.size,0,none⟩,1,1,λ_=>h⟩:Hs) else d) 3=m:=by simp[tu];omega
 have c2:Bu (λk=>if k=0 then s0 else if k=1 then(⟨some ⟨w.heap.size,0,none⟩,1,1,λ_=>h⟩:Hs) else d) 3=ax m f:=by rw[<-A];simp[Bu,ax]
 rw[c1,c2] at q;obtain⟨g,rfl,r,D,y⟩:=cy.ofRow q i.size;exact⟨g,rfl,r,D,y,i.trans (u.mono i.size)⟩
theorem Tm(s:Hs)(h:Hd)(w:World)(hs:s.At w):
  Calls prog 145 #[s.val,h.val] w λe y=>∃G:Hs,e = .returned (.tuple #[G.val,.int .i64 (addE s.n s.z h)])/\cy w.heap.size 61 y G/\Dh s.n s.z h G/\Below w.heap.size w y:=by
 have HS:=hs;obtain⟨a,n,c,z⟩:=s;obtain⟨hn,hc,hz,ak⟩:=hs;dsimp only at hn hc hz ak ⊢;have ay:=hc;unfold maxLen at hc;simp only[Hs.val,Hd.val];have NA:Hid (∀y,cy w.heap.size 61 y ⟨none,0,0,z⟩):=λy=>cy.nil _ _ _ _;have aw:Below w.heap.size w (w.alloc (.cells #[.int .i64 h.o,.int .i64 h.l,.int .i64 h.b,.int .i64 h.n] 61)):=brf.alloc nlr _;have x:Below (w.heap.size+1) (w.alloc (.cells #[.int .i64 h.o,.int .i64 h.l,.int .i64 h.b,.int .i64 h.n] 61)) (w.alloc (.cells #[.int .i64 h.o,.int .i64 h.l,.int .i64 h.b,.int .i64 h.n] 61)):=Below.refl _ _;have hT:Hid (∀L,Below (w.heap.size+1) (w.alloc (.cells #[.int .i64 h.o,.int .i64 h.l,.int .i64 h.b,.int .i64 h.n] 61)) L->(L.cell? ⟨w.heap.size,0,none⟩=some (.int .i64 h.o)/\L.cell? ⟨w.heap.size,1,none⟩=some (.int .i64 h.l)/\L.cell? ⟨w.heap.size,2,none⟩=some (.int .i64 h.b)/\L.cell? ⟨w.heap.size,3,none⟩=some (.int .i64 h.n))/\L.frozen? ⟨w.heap.size,3,none⟩=false/\w.heap.size<L.heap.size):=λL hb =>
  ⟨⟨(hb.cell (p:=⟨w.heap.size,0,none⟩) (by simp)).trans (by simp),(hb.cell (p:=⟨w.heap.size,1,none⟩) (by simp)).trans (by simp),(hb.cell (p:=⟨w.heap.size,2,none⟩) (by simp)).trans (by simp),(hb.cell (p:=⟨w.heap.size,3,none⟩) (by simp)).trans (by simp)⟩,(hb.frozen (p:=⟨w.heap.size,3,none⟩) (by simp)).trans (by simp),by have:=hb.size;simp at this;omega⟩
 go_enter func145,ntmps145;go_wp2_with fail;refine(ts ⟨a,n,c,z⟩ _ (HS.below aw)).mono ?_;rintro e L ⟨rfl,M⟩;dsimp only;have f:=aw.trans (M.mono (by simp));have x:=x.trans (M.mono (by simp));obtain⟨⟨V,t1,W,X⟩,tf,T⟩:=hT.out L x;clear M hz;by_cases Y:gw n z=0;rotate_left
 .have q:Hid (addE n z h=gw n z):=by show addE n z h=_;simp[addE,Y]
  go_wp2_with fail
  go_ret2
  exact⟨⟨none,0,0,z⟩,by rw[q.out];rfl,NA.out _,⟨by rw[q.out,if_neg Y],λj v=>absurd v (Qzq _)⟩,f⟩
 have hr:=Eb Y;have bq:=wh hr;go_wp2_with fail;refine(ri h L).mono ?_;rintro e w2 ⟨rfl,M⟩;have f:=f.trans (M.mono f.size);have x:=x.trans (M.mono (by omega));clear V t1 W X tf T M;obtain⟨⟨V,t1,W,X⟩,tf,T⟩:=hT.out w2 x;cases D:gx h
 .have q:Hid (addE n z h=1):=by show addE n z h=1;simp[addE,Y,D]
  go_wp2_with fail
  go_ret2
  exact⟨⟨none,0,0,z⟩,by rw[q.out];rfl,NA.out _,⟨by rw[q.out];rfl,λj v=>absurd v (Qzq _)⟩,f⟩
 have bt:=(cx D).2.2.2;go_wp2_with fail;refine(Ll ⟨a,n,c,z⟩ h w2 (HS.below f) hr).mono ?_;rintro e g ⟨i,rfl,hp,M⟩;dsimp only at hp ⊢;have f:=f.trans (M.mono f.size);have x:=x.trans (M.mono (by omega));clear V t1 W X tf T M;obtain⟨⟨V,t1,W,X⟩,tf,T⟩:=hT.out g x;obtain⟨fy,fn⟩:=Z2 (o:=h.o) (l:=h.l) (b:=h.b) hr ⟨rfl,rfl,rfl⟩ hp;have ah:Hid (jc n z h=i):=N6 hp;have a3:=hp.le;have HZ:=HS.below f;clear hp;have m1:(0:Int)<=(i:Int):=by omega
 have m2:(i:Int)<=(n:Int):=by omega
 have m4:(n:Int)<=(c:Int):=by omega
 cases hf:(decide (i<n)&&decide (l9 (z i) h=0));rotate_left
 .obtain⟨aj,H,kI,k1,k2⟩:=fy hf;obtain⟨K,J,ha,hb,z0,z1,z2,z3⟩:=HZ.hds i aj;dsimp only at ha z0 z1 z2 z3;subst ha;have m3:(i:Int)<(n:Int):=by omega
  have KV:=hid H;clear fy fn H kI z0 z1 z2;go_wp2_with fail
  go_region
  have F:∃m,(g.setCell ⟨w.heap.size,3,none⟩ (.int .i64 (h.n+(z i).n))).drew=m/\Below w.heap.size w m/\w.heap.size<m.heap.size/\(m.cell? ⟨w.heap.size,0,none⟩=some (.int .i64 h.o)/\m.cell? ⟨w.heap.size,1,none⟩=some (.int .i64 h.l)/\m.cell? ⟨w.heap.size,2,none⟩=some (.int .i64 h.b)/\m.cell? ⟨w.heap.size,3,none⟩=some (.int .i64 (h.n+(z i).n))):=by
   have bx:Blk g w.heap.size 61 4 (λj=>(#[.int .i64 h.o,.int .i64 h.l,.int .i64 h.b,.int .i64 h.n]:Array Value).getD j default):=(Blk.mk' (w:=w) rfl rfl).same (x.block w.heap.size (by omega));have U:=Blk.below (bx.set 3 (.int .i64 (h.n+(z i).n))) (brf.drew);refine⟨_,rfl,(f.setCell (p:=⟨w.heap.size,3,none⟩) nlr _).drew,U.lt,U.k 0,U.k 1,U.k 2,U.k 3⟩
  obtain⟨m,au,av,bm,u0,u1,u2,u3⟩:=F;rw[au];clear au V t1 W X tf z3 T;have ai:=HS.below av;have f:=av;cases af:decide (200<h.n+(z i).n);rotate_left
  .have an:200<h.n+(z i).n:=by simpa using af
   have q:Hid (addE n z h=3):=by
    show addE n z h=3;have H:=KV.out;unfold addE;rw[if_pos Y,if_pos D,H,if_pos (by omega)]
   go_wp2_with fail
   go_ret2
   exact⟨⟨none,0,0,z⟩,by rw[q.out];rfl,NA.out _,⟨by rw[q.out];rfl,λj v=>absurd v (Qzq _)⟩,f⟩
  have an:¬200<h.n+(z i).n:=by simpa using af
  have q:Hid (addE n z h=0/\pn n z h=n/\xy n z h=qu z i ⟨h.o,h.l,h.b,h.n+(z i).n⟩):=by
   show _/\_/\_;have H:=KV.out;have ar:¬keptV n z h.o h.l h.b=0:=by omega
   refine⟨?_,by simp[pn,ar],?_⟩
   .unfold addE;rw[if_pos Y,if_pos D,H,if_neg (by omega)]
   unfold xy;rw[if_neg ar,ah.out,H,Int.add_comm]
  have e0:=Qqq u0;have e1:=Qqq u1;have e2:=Qqq u2;have e3:=Qqq u3;by_cases ac:c=i+1
  .go_wp2_with fail;refine pb (λy=>∃p:Regrown,y=grow (redrawn m p.d) p.os)
    ([0,1,2,3,5,6,7,8].map (λk=>(true,k))++[(false,4),(false,9),(false,10),(true,11),(false,12)]) (by kernel_rfl) (by kernel_rfl) (by kernel_rfl) (by kernel_rfl) (Qqx (brf.drew)) ?_
   refine ap 0 rfl rfl ?_
   go_big_quiet_step(fail)
   refine Qqz ?_;refine ap 1 rfl rfl ?_
   go_big_quiet_step(fail)
   refine Qqz ?_;refine ap 2 rfl rfl ?_
   go_big_quiet_step(fail)
   refine Qqz ?_;refine ap 3 rfl rfl ?_
   go_big_quiet_step(fail)
   refine Qqz ?_;refine ap 5 rfl rfl ?_
   go_big_quiet_step(fail)
   refine Qqz ?_;refine ap 6 rfl rfl ?_
   go_big_quiet_step(fail)
   refine Qqz ?_;refine ap 7 rfl rfl ?_
   go_big_quiet_step(fail)
   refine Qqz ?_;refine ap 8 rfl rfl ?_
   go_big_quiet_step(fail)
   refine Qqz ?_;refine db 4 (by decide) ?_;simp only[Qyq,Xqq,Qyx,Qyz];go_wp2_with fail;have S:Hid (Hs.At m ⟨some ⟨K,J,none⟩,i,i+1,z⟩):=⟨by simp,by show i+1<=maxLen;unfold maxLen;omega,λj v=>ai.hds j (by have:j<i:=v;show j<n;omega),λh=>by cases h⟩;have Q:Hid (Hs.At m ⟨some ⟨K,J,none⟩,n-(i+1),0,λj=>z (i+1+j)⟩):=⟨by show n-(i+1)<=0;omega,Qxz _,λj v=>by have:j<n-(i+1):=v;omega,λh=>by cases h⟩;have E:Below m.heap.size m (m.alloc (.cells #[.int .i64 h.o,.int .i64 h.l,.int .i64 h.b,.int .i64 (h.n+(z i).n)] 61)).drew:=(brf.alloc nlr _).drew;have P:Below m.heap.size m ((m.alloc (.cells #[.int .i64 h.o,.int .i64 h.l,.int .i64 h.b,.int .i64 (h.n+(z i).n)] 61)).alloc (.cells #[.slice (some ⟨K,J,none⟩) (i) (i+1),.slice (some ⟨m.heap.size,0,none⟩) 1 1,.slice (some ⟨K,J,none⟩) (n-(i+1)) (0)] 28)).drew:=((brf.alloc nlr _).alloc (by simp) _).drew;refine⟨Qqx E,?_⟩;refine db 9 (by decide) ?_;simp only[Qyq,Xqq,Qyx,Qyz];go_wp2_with fail;refine⟨Qqx P,?_⟩;refine db 10 (by decide) ?_;simp only[Qyq,Xqq,Qyx,Qyz];go_wp2_with fail;refine(Eo ⟨some ⟨K,J,none⟩,i,i+1,z⟩ ⟨some ⟨K,J,none⟩,n-(i+1),0,λj=>z (i+1+j)⟩ ⟨h.o,h.l,h.b,h.n+(z i).n⟩ m (n) (qu z i ⟨h.o,h.l,h.b,h.n+(z i).n⟩) S.out Q.out (by dsimp only;omega) (by dsimp only;omega) (by first|rfl|(dsimp only;omega)) (by rw[Oo _ _ _ _ aj];simp[ax])).mono ?_;rintro e w9 ⟨G,rfl,t,A,B,r⟩;have u:=qa3 (t.mono f.size) A B;clear t A B;simp only[Hs.val];go_wp2_with fail;refine⟨Qqx r,?_⟩;refine ap 11 rfl rfl ?_
   go_big_quiet_step(fail)
   refine Qqz ?_;refine db 12 (by decide) ?_;simp only[Qyq,Xqq,Qyx,Qyz];go_wp2_with fail;refine⟨Qqx r,?_⟩;refine NoPanic.normal ?_;go_wp2_with fail
   go_ret2
   exact⟨G,by rw[q.out.1];rfl,u.out.1,⟨by rw[q.out.1,q.out.2.1];exact u.out.2.1,λj v=>by rw[q.out.2.2,u.out.2.2]⟩,f.trans (r.mono f.size)⟩
  go_wp2_with fail;refine pb (λy=>∃p:Regrown,y=grow (redrawn m p.d) p.os)
   ([0,1,2,3,5,6,7,8].map (λk=>(true,k))++[(false,4),(false,9),(false,10),(true,11),(false,12)]) (by kernel_rfl) (by kernel_rfl) (by kernel_rfl) (by kernel_rfl) (Qqx (brf.drew)) ?_
  refine ap 0 rfl rfl ?_
  go_big_quiet_step(fail)
  refine Qqz ?_;refine ap 1 rfl rfl ?_
  go_big_quiet_step(fail)
  refine Qqz ?_;refine ap 2 rfl rfl ?_
  go_big_quiet_step(fail)
  refine Qqz ?_;refine ap 3 rfl rfl ?_
  go_big_quiet_step(fail)
  refine Qqz ?_;refine ap 5 rfl rfl ?_
  go_big_quiet_step(fail)
  refine Qqz ?_;refine ap 6 rfl rfl ?_
  go_big_quiet_step(fail)
  refine Qqz ?_;refine ap 7 rfl rfl ?_
  go_big_quiet_step(fail)
  refine Qqz ?_;refine ap 8 rfl rfl ?_
  go_big_quiet_step(fail)
  refine Qqz ?_;refine db 4 (by decide) ?_;simp only[Qyq,Xqq,Qyx,Qyz];go_wp2_with fail;have S:Hid (Hs.At m ⟨some ⟨K,J,none⟩,i,c,z⟩):=⟨by show i<=c;omega,ay,λj v=>ai.hds j (by have:j<i:=v;show j<n;omega),λh=>by cases h⟩;have Q:Hid (Hs.At m ⟨some ⟨K,J+(i+1)*4,none⟩,n-(i+1),c-(i+1),λj=>z (i+1+j)⟩):=⟨by show n-(i+1)<=c-(i+1);omega,by show c-(i+1)<=maxLen;omega,by
   have:=ai.hds.cut (c:=c) (i+1) (by show i+1<=n;omega) hn;rw[if_neg ac,Go.WideShapes.add_plain] at this;exact this,λh=>by cases h⟩
  have E:Below m.heap.size m (m.alloc (.cells #[.int .i64 h.o,.int .i64 h.l,.int .i64 h.b,.int .i64 (h.n+(z i).n)] 61)).drew:=(brf.alloc nlr _).drew;have P:Below m.heap.size m ((m.alloc (.cells #[.int .i64 h.o,.int .i64 h.l,.int .i64 h.b,.int .i64 (h.n+(z i).n)] 61)).alloc (.cells #[.slice (some ⟨K,J,none⟩) (i) (c),.slice (some ⟨m.heap.size,0,none⟩) 1 1,.slice (some ⟨K,J+(i+1)*4,none⟩) (n-(i+1)) (c-(i+1))] 28)).drew:=((brf.alloc nlr _).alloc (by simp) _).drew;refine⟨Qqx E,?_⟩;refine db 9 (by decide) ?_;simp only[Qyq,Xqq,Qyx,Qyz];go_wp2_with fail;refine⟨Qqx P,?_⟩;refine db 10 (by decide) ?_;simp only[Qyq,Xqq,Qyx,Qyz];go_wp2_with fail;refine(Eo ⟨some ⟨K,J,none⟩,i,c,z⟩ ⟨some ⟨K,J+(i+1)*4,none⟩,n-(i+1),c-(i+1),λj=>z (i+1+j)⟩ ⟨h.o,h.l,h.b,h.n+(z i).n⟩ m (n) (qu z i ⟨h.o,h.l,h.b,h.n+(z i).n⟩) S.out Q.out (by dsimp only;omega) (by dsimp only;omega) (by first|rfl|(dsimp only;omega)) (by rw[Oo _ _ _ _ aj];simp[ax])).mono ?_;rintro e w9 ⟨G,rfl,t,A,B,r⟩;have u:=qa3 (t.mono f.size) A B;clear t A B;simp only[Hs.val];go_wp2_with fail;refine⟨Qqx r,?_⟩;refine ap 11 rfl rfl ?_
  go_big_quiet_step(fail)
  refine Qqz ?_;refine db 12 (by decide) ?_;simp only[Qyq,Xqq,Qyx,Qyz];go_wp2_with fail;refine⟨Qqx r,?_⟩;refine NoPanic.normal ?_;go_wp2_with fail
  go_ret2
  exact⟨G,by rw[q.out.1];rfl,u.out.1,⟨by rw[q.out.1,q.out.2.1];exact u.out.2.1,λj v=>by rw[q.out.2.2,u.out.2.2]⟩,f.trans (r.mono f.size)⟩
 obtain⟨H,_⟩:=fn hf;have q:Hid (addE n z h=0/\pn n z h=n+1/\xy n z h=lw z i h):=by
  show _/\_/\_;refine⟨?_,by simp[pn,H],by simp[xy,H,ah.out]⟩;unfold addE;rw[if_pos Y,if_pos D,H,if_neg (by omega)]
 have e0:=Qqq V;have e1:=Qqq t1;have e2:=Qqq W;have e3:=Qqq X;clear fy fn H V t1 W X tf;cases a with
 | none =>
  have bg:c=0:=ak rfl;have a8:n=0:=by omega
  have bd:i=0:=by omega
  subst bg a8 bd;go_wp2_with fail;refine pb (λy=>∃p:Regrown,y=grow (redrawn g p.d) p.os)
   ([0,1,2,3,5,6,7].map (λk=>(true,k))++[(false,4),(false,8),(false,9),(true,10),(false,11)]) (by kernel_rfl) (by kernel_rfl) (by kernel_rfl) (by kernel_rfl) (Qqx (brf.drew)) ?_
  refine ap 0 rfl rfl ?_
  go_big_quiet_step(fail)
  refine Qqz ?_;refine ap 1 rfl rfl ?_
  go_big_quiet_step(fail)
  refine Qqz ?_;refine ap 2 rfl rfl ?_
  go_big_quiet_step(fail)
  refine Qqz ?_;refine ap 3 rfl rfl ?_
  go_big_quiet_step(fail)
  refine Qqz ?_;refine ap 5 rfl rfl ?_
  go_big_quiet_step(fail)
  refine Qqz ?_;refine ap 6 rfl rfl ?_
  go_big_quiet_step(fail)
  refine Qqz ?_;refine ap 7 rfl rfl ?_
  go_big_quiet_step(fail)
  refine Qqz ?_;refine db 4 (by decide) ?_;simp only[Qyq,Xqq,Qyx,Qyz];go_wp2_with fail;have S:Hid (Hs.At g ⟨none,0,0,z⟩):=(NA.out g).at;have Q:Hid (Hs.At g ⟨none,0-0,0,λj=>z (0+j)⟩):=⟨Nat.le_refl _,Qxz _,λi hi=>absurd hi (Qzq _),λ_=>rfl⟩;have E:Below g.heap.size g (g.alloc (.cells #[.int .i64 h.o,.int .i64 h.l,.int .i64 h.b,.int .i64 h.n] 61)).drew:=(brf.alloc nlr _).drew;have P:Below g.heap.size g ((g.alloc (.cells #[.int .i64 h.o,.int .i64 h.l,.int .i64 h.b,.int .i64 h.n] 61)).alloc (.cells #[.slice (none) (0) (0),.slice (some ⟨g.heap.size,0,none⟩) 1 1,.slice (none) (0) (0)] 28)).drew:=((brf.alloc nlr _).alloc (by simp) _).drew;refine⟨Qqx E,?_⟩;refine db 8 (by decide) ?_;simp only[Qyq,Xqq,Qyx,Qyz];go_wp2_with fail;refine⟨Qqx P,?_⟩;refine db 9 (by decide) ?_;simp only[Qyq,Xqq,Qyx,Qyz];go_wp2_with fail;refine(Eo ⟨none,0,0,z⟩ ⟨none,0-0,0,λj=>z (0+j)⟩ h g (0+1) (lw z 0 h) S.out Q.out (by dsimp only;omega) (by dsimp only;omega) (by first|rfl|(dsimp only;omega)) (by rw[H4 _ _ _ _ (by omega)];simp[ax])).mono ?_;rintro e w9 ⟨G,rfl,t,A,B,r⟩;have u:=qa3 (t.mono f.size) A B;clear t A B;simp only[Hs.val];go_wp2_with fail;refine⟨Qqx r,?_⟩;refine ap 10 rfl rfl ?_
  go_big_quiet_step(fail)
  refine Qqz ?_;refine db 11 (by decide) ?_;simp only[Qyq,Xqq,Qyx,Qyz];go_wp2_with fail;refine⟨Qqx r,?_⟩;refine NoPanic.normal ?_;go_wp2_with fail
  go_ret2
  exact⟨G,by rw[q.out.1];rfl,u.out.1,⟨by rw[q.out.1,q.out.2.1];exact u.out.2.1,λj v=>by rw[q.out.2.2,u.out.2.2]⟩,f.trans (r.mono f.size)⟩
 | some ad =>
  by_cases ac:c=i;rotate_left
  .go_wp2_with fail;refine pb (λy=>∃p:Regrown,y=grow (redrawn g p.d) p.os)
    ([0,1,2,3,5,6,7].map (λk=>(true,k))++[(false,4),(false,8),(false,9),(true,10),(false,11)]) (by kernel_rfl) (by kernel_rfl) (by kernel_rfl) (by kernel_rfl) (Qqx (brf.drew)) ?_
   refine ap 0 rfl rfl ?_
   go_big_quiet_step(fail)
   refine Qqz ?_;refine ap 1 rfl rfl ?_
   go_big_quiet_step(fail)
   refine Qqz ?_;refine ap 2 rfl rfl ?_
   go_big_quiet_step(fail)
   refine Qqz ?_;refine ap 3 rfl rfl ?_
   go_big_quiet_step(fail)
   refine Qqz ?_;refine ap 5 rfl rfl ?_
   go_big_quiet_step(fail)
   refine Qqz ?_;refine ap 6 rfl rfl ?_
   go_big_quiet_step(fail)
   refine Qqz ?_;refine ap 7 rfl rfl ?_
   go_big_quiet_step(fail)
   refine Qqz ?_;refine db 4 (by decide) ?_;simp only[Qyq,Xqq,Qyx,Qyz];go_wp2_with fail;have S:Hid (Hs.At g ⟨some ad,i,c,z⟩):=⟨by show i<=c;omega,ay,λj v=>HZ.hds j (by have:j<i:=v;show j<n;omega),λh=>by cases h⟩;have Q:Hid (Hs.At g ⟨some (ad.add (i*4)),n-i,c-i,λj=>z (i+j)⟩):=⟨by show n-i<=c-i;omega,by show c-i<=maxLen;omega,by
    have:=HZ.hds.cut (c:=c) i a3 hn;rw[if_neg ac] at this;exact this,λh=>by cases h⟩
   have E:Below g.heap.size g (g.alloc (.cells #[.int .i64 h.o,.int .i64 h.l,.int .i64 h.b,.int .i64 h.n] 61)).drew:=(brf.alloc nlr _).drew;have P:Below g.heap.size g ((g.alloc (.cells #[.int .i64 h.o,.int .i64 h.l,.int .i64 h.b,.int .i64 h.n] 61)).alloc (.cells #[.slice (some ad) (i) (c),.slice (some ⟨g.heap.size,0,none⟩) 1 1,.slice (some (ad.add (i*4))) (n-i) (c-i)] 28)).drew:=((brf.alloc nlr _).alloc (by simp) _).drew;refine⟨Qqx E,?_⟩;refine db 8 (by decide) ?_;simp only[Qyq,Xqq,Qyx,Qyz];go_wp2_with fail;refine⟨Qqx P,?_⟩;refine db 9 (by decide) ?_;simp only[Qyq,Xqq,Qyx,Qyz];go_wp2_with fail;refine(Eo ⟨some ad,i,c,z⟩ ⟨some (ad.add (i*4)),n-i,c-i,λj=>z (i+j)⟩ h g (n+1) (lw z i h) S.out Q.out (by dsimp only;omega) (by dsimp only;omega) (by first|rfl|(dsimp only;omega)) (by rw[H4 _ _ _ _ (by omega)];simp[ax])).mono ?_;rintro e w9 ⟨G,rfl,t,A,B,r⟩;have u:=qa3 (t.mono f.size) A B;clear t A B;simp only[Hs.val];go_wp2_with fail;refine⟨Qqx r,?_⟩;refine ap 10 rfl rfl ?_
   go_big_quiet_step(fail)
   refine Qqz ?_;refine db 11 (by decide) ?_;simp only[Qyq,Xqq,Qyx,Qyz];go_wp2_with fail;refine⟨Qqx r,?_⟩;refine NoPanic.normal ?_;go_wp2_with fail
   go_ret2
   exact⟨G,by rw[q.out.1];rfl,u.out.1,⟨by rw[q.out.1,q.out.2.1];exact u.out.2.1,λj v=>by rw[q.out.2.2,u.out.2.2]⟩,f.trans (r.mono f.size)⟩
  have bh:n=i:=by omega
  subst bh;subst ac;go_wp2_with fail;refine pb (λy=>∃p:Regrown,y=grow (redrawn g p.d) p.os)
   ([0,1,2,3,5,6,7].map (λk=>(true,k))++[(false,4),(false,8),(false,9),(true,10),(false,11)]) (by kernel_rfl) (by kernel_rfl) (by kernel_rfl) (by kernel_rfl) (Qqx (brf.drew)) ?_
  refine ap 0 rfl rfl ?_
  go_big_quiet_step(fail)
  refine Qqz ?_;refine ap 1 rfl rfl ?_
  go_big_quiet_step(fail)
  refine Qqz ?_;refine ap 2 rfl rfl ?_
  go_big_quiet_step(fail)
  refine Qqz ?_;refine ap 3 rfl rfl ?_
  go_big_quiet_step(fail)
  refine Qqz ?_;refine ap 5 rfl rfl ?_
  go_big_quiet_step(fail)
  refine Qqz ?_;refine ap 6 rfl rfl ?_
  go_big_quiet_step(fail)
  refine Qqz ?_;refine ap 7 rfl rfl ?_
  go_big_quiet_step(fail)
  refine Qqz ?_;refine db 4 (by decide) ?_;simp only[Qyq,Xqq,Qyx,Qyz];go_wp2_with fail;have S:=hid HZ;have Q:Hid (Hs.At g ⟨some ad,c-c,0,λj=>z (c+j)⟩):=⟨by simp,Qxz _,λi hi=>by have:i<c-c:=hi;omega,λh=>by cases h⟩;have E:Below g.heap.size g (g.alloc (.cells #[.int .i64 h.o,.int .i64 h.l,.int .i64 h.b,.int .i64 h.n] 61)).drew:=(brf.alloc nlr _).drew;have P:Below g.heap.size g ((g.alloc (.cells #[.int .i64 h.o,.int .i64 h.l,.int .i64 h.b,.int .i64 h.n] 61)).alloc (.cells #[.slice (some ad) (c) (c),.slice (some ⟨g.heap.size,0,none⟩) 1 1,.slice (some ad) (0) (0)] 28)).drew:=((brf.alloc nlr _).alloc (by simp) _).drew;refine⟨Qqx E,?_⟩;refine db 8 (by decide) ?_;simp only[Qyq,Xqq,Qyx,Qyz];go_wp2_with fail;refine⟨Qqx P,?_⟩;refine db 9 (by decide) ?_;simp only[Qyq,Xqq,Qyx,Qyz];go_wp2_with fail;refine(Eo ⟨some ad,c,c,z⟩ ⟨some ad,0,0,λj=>z (c+j)⟩ h g (c+1) (lw z c h) S.out (by have:=Q.out;rwa[Nat.sub_self] at this) (by dsimp only;omega) (by dsimp only;omega) (by first|rfl|(dsimp only;omega)) (by rw[H4 _ _ _ _ (by omega)];simp[ax])).mono ?_;rintro e w9 ⟨G,rfl,t,A,B,r⟩;have u:=qa3 (t.mono f.size) A B;clear t A B;simp only[Hs.val];go_wp2_with fail;refine⟨Qqx r,?_⟩;refine ap 10 rfl rfl ?_
  go_big_quiet_step(fail)
  refine Qqz ?_;refine db 11 (by decide) ?_;simp only[Qyq,Xqq,Qyx,Qyz];go_wp2_with fail;refine⟨Qqx r,?_⟩;refine NoPanic.normal ?_;go_wp2_with fail
  go_ret2
  exact⟨G,by rw[q.out.1];rfl,u.out.1,⟨by rw[q.out.1,q.out.2.1];exact u.out.2.1,λj v=>by rw[q.out.2.2,u.out.2.2]⟩,f.trans (r.mono f.size)⟩
def A5(x:Hd):Prop:=(0<=x.o/\x.o<=3)/\(0<=x.l/\x.l<=2)/\(0<=x.b/\x.b<=5)
theorem Mq{x:Hd}(h:gx x=true):A5 x:=⟨(cx h).1,(cx h).2.1,(cx h).2.2.1⟩
theorem sy(x:Hd)(w:World)(h:A5 x):
  Calls prog 154 #[x.val] w λe a=>e = .returned (.int .i64 (ba x))/\Below w.heap.size w a:=by
 unfold A5 at h;unfold ba Hd.val;go_enter func154,ntmps154
 go_wp2
 go_ret;exact⟨rfl,brf.alloc nlr _⟩
theorem Aw(w:World)(x:Hd)(t:TypeId):∀j u,(dg x)[j]?=some u->(w.alloc (.cells #[.int .i64 x.o,.int .i64 x.l,.int .i64 x.b,.int .i64 x.n] t)).cell? ((⟨w.heap.size,0,none⟩:Addr).add j)=some u:=by
 intro j u a;rw[Go.WideShapes.add_plain];have c:j<4:=by
  have:=(List.getElem?_eq_some_iff.1 a).1
  simpa[dg] using this
 have e:Blk (w.alloc (.cells #[.int .i64 x.o,.int .i64 x.l,.int .i64 x.b,.int .i64 x.n] t)) w.heap.size t 4 (λj=>(#[.int .i64 x.o,.int .i64 x.l,.int .i64 x.b,.int .i64 x.n]:Array Value).getD j default):=Blk.mk' rfl rfl;rw[Nat.zero_add,e.cell c];have d:j=0\/j=1\/j=2\/j=3:=by omega
 rcases d with rfl|rfl|rfl|rfl<;>(simp[dg] at a;rw[<-a];rfl)
theorem zo(x:Hd):∀u∈dg x,u.oneCell'=true:=by
 intro u a;simp[dg] at a;rcases a with rfl|rfl|rfl|rfl<;>rfl
theorem lv{w c:World}{base:Nat}{e:TypeId}{size:Nat}{v:Value}{n:Nat}{b:List Value}(h:w.ownsRow base e size v n b)(a:Below w.heap.size w c):c.ownsRow base e size v n b :=
 h.kept (row:=none) ⟨a.os,a.tape,a.output,a.size,λj d _=>a.block j d⟩ (by cases h:v.ownBlock<;>simp)
theorem pd{W a:World}(h:∃p:Regrown,a=grow (redrawn W p.d) p.os):Below W.heap.size W a:=by
 obtain⟨p,rfl⟩:=h;exact Qxx _ _ _
def wA(h:Hd)(d:Bool)(x:Hd):Bool := !d&&decide (ba h<=ba x)
def jx(h:Hd)(z:Nat->Hd):Nat->List Hd × Bool
 | 0=>([],h.n==0)
 | k+1=>((jx h z k).1++(if wA h (jx h z k).2 (z k) then [h] else [])++(if ba (z k) !=ba h then [z k] else []),(jx h z k).2||wA h (jx h z k).2 (z k))
def Ku(h:Hd)(n:Nat)(z:Nat->Hd):List Hd:=if (jx h z n).2 then(jx h z n).1 else(jx h z n).1++[h]
def I9(l:List Hd):List Value:=l.flatMap dg
theorem wy(l:List Hd)(x:Hd):I9 (l++[x])=I9 l++dg x:=by simp[I9]
theorem Mj{A b:Nat}{w:World}{e:TypeId}{size:Nat}{v:Value}{n:Nat}{a:List Value}(h:w.ownsRow A e size v n a)(c:b<=A):w.ownsRow b e size v n a :=
 ⟨h.1,h.2.imp_right λ⟨g,cap,cur,h1,h2,h3⟩=>⟨g,cap,cur,h1,Qzx c h2,h3⟩⟩
theorem Rs(h:Hd)(z:Nat->Hd):∀k,(jx h z k).1.length<=2*k
 | 0=>Nat.le_refl _
 | k+1=>by
  have:=Rs h z k;rw[jx];simp only[List.length_append]
  split<;>split<;>simp<;>omega
theorem Zv(s:Hs)(h:Hd)(w:World)(hs:s.At w)(hr:aw s.n (cz s.z)=false)(am:A5 h):
  Calls prog 119 #[s.val,.int .i64 h.o,.int .i64 h.l,.int .i64 h.b,.int .i64 h.n] w λe w'=>∃v,e = .returned v/\w'.ownsRow w.heap.size 61 4 v (Ku h s.n s.z).length (I9 (Ku h s.n s.z))/\Below w.heap.size w w':=by
 have ao:=wh hr;have HF:Hid (∀j,j<s.n->A5 (s.z j)):=λj hj=>Mq (ca hr j hj);clear hr;obtain⟨i0,hi,ah,ak,aj⟩:=info_parts Kh;obtain⟨Y,hW,ai,K0⟩:∃W,w.alloc (.cells #[.int .i64 h.o,.int .i64 h.l,.int .i64 h.b,.int .i64 h.n] 61)=W/\Below w.heap.size w W/\Blk W w.heap.size 61 4 (λj=>(#[.int .i64 h.o,.int .i64 h.l,.int .i64 h.b,.int .i64 h.n]:Array Value).getD j default):=⟨_,rfl,brf.alloc nlr _,Blk.mk' rfl rfl⟩;have HW:Hid (w.alloc (.cells #[.int .i64 h.o,.int .i64 h.l,.int .i64 h.b,.int .i64 h.n] 61)=Y):=hW;have ae:=hid am;have HT:Hid (∀T,Below Y.heap.size Y T->T.cell? ⟨w.heap.size,0,none⟩=some (.int .i64 h.o)/\T.cell? ⟨w.heap.size,0+1,none⟩=some (.int .i64 h.l)/\T.cell? ⟨w.heap.size,0+2,none⟩=some (.int .i64 h.b)/\T.cell? ⟨w.heap.size,0+3,none⟩=some (.int .i64 h.n)):=λT U=>⟨(K0.below U).k 0,(K0.below U).k 1,(K0.below U).k 2,(K0.below U).k 3⟩;have HS:Hid (∀T,Below Y.heap.size Y T->s.At T/\Below w.heap.size w T):=λT U=>⟨(hs.below ai).below U,ai.trans (U.mono ai.size)⟩;have ay:=hid ai.size;have bm:=hs.le;have a0:=hs.cap;unfold maxLen at a0;clear hW ai K0 hs am;obtain⟨a,n,c,z⟩:=s;dsimp only at *;simp only[Hs.val];go_enter func119,ntmps119;go_wp2_with fail;rw[HW.out];clear HW
 go_loopw [12,13,14] (λv dn i wk=>∃k:Nat,k<=n/\i = .int .i64 k/\dn = .bool (jx h z k).2/\wk.ownsRow Y.heap.size 61 4 v (jx h z k).1.length (I9 (jx h z k).1)/\Below Y.heap.size Y wk) (λ_ _ i _=>n-(intOf i).toNat)
 case atStart=>exact⟨0,Qxz _,rfl,rfl,World.ownsRow_nil _ _ _ _,Below.refl _ _⟩
 obtain⟨k,hk,rfl,rfl,own,d⟩:=hrel;have V:Hid ((jx h z k).1.length<=2*k):=Rs h z k;by_cases ap:k<n;rotate_left
 .have a6:k=n:=by omega
  subst a6;have q1:¬(k:Int)<(k:Int):=by omega
  have HB:Hid (Below w.heap.size w wr):=(HS.out wr d).2;have HA:Hid (Ku h k z=if (jx h z k).2 then(jx h z k).1 else(jx h z k).1++[h]):=rfl
  generalize (jx h z k).1=L at *
  generalize (jx h z k).2=D at *
  cases D
  .obtain⟨r,p,g,m⟩:=HT.out wr d;simp only[Nat.zero_add] at p g m;go_wp2_with(at_builtin;refine wpList_append_own _ rfl (.tmp 61) (.tmp 63) 28 rfl Y.heap.size 61 i0 (.agg #[.int .i64 0,.int .i64 0,.int .i64 0,.int .i64 0]) 4 32 underlying28 hi ah ak aj rfl (by decide) _ _ _ rfl (World.ownsRow.alloc own _) ⟨wr.heap.size,0,none⟩ 1 1 (dg h) rfl rfl (Aw _ _ _) (zo _) (by have:=V.out;have:=ao;unfold maxLen;omega) (by have:=V.out;have:=ao;omega) (by have:=d.size;simp;omega) ?_;intro v2 X t Q aa);have d:=(d.alloc d.size _).grown Q (by have:=d.size;simp;omega) (λq f=>(World.ownsRow.lt own q f).1);rw[<-wy,show ∀l:List Hd,l.length+1=(l++[h]).length from λl=>by simp] at t;have own:=t;clear r p g m Q aa t;go_wp2_with fail;go_ret;exact⟨_,rfl,by rw[HA.out];exact Mj own ay.out,(HS.out _ d).2⟩
  go_wp2_with fail;go_ret;exact⟨_,rfl,by rw[HA.out];exact Mj own ay.out,HB.out⟩
 have ad:Hid (A5 (z k)):=HF.out k ap;obtain⟨bb,oo,ha,bl,-⟩:=(HS.out wr d).1.hds k ap;subst ha;have HK:Hid (∀T,Below Y.heap.size Y T->T.cell? ⟨bb,oo+k*4,none⟩=some (.int .i64 (z k).o)/\T.cell? ⟨bb,oo+k*4+1,none⟩=some (.int .i64 (z k).l)/\T.cell? ⟨bb,oo+k*4+2,none⟩=some (.int .i64 (z k).b)/\T.cell? ⟨bb,oo+k*4+3,none⟩=some (.int .i64 (z k).n)):=λT U=>by
  obtain⟨b',o',he,-,q0,q1,q2,q3⟩:=(HS.out T U).1.hds k ap;simp only[Qkx,Qkz,and_true] at he;obtain⟨rfl,rfl⟩:=he;exact⟨q0,q1,q2,q3⟩
 have m1:(0:Int)<=(k:Int):=by omega
 have m2:(k:Int)<(n:Int):=by omega
 have HO:Hid (jx h z (k+1)=((jx h z k).1++(if wA h (jx h z k).2 (z k) then [h] else [])++(if ba (z k) !=ba h then [z k] else []),(jx h z k).2||wA h (jx h z k).2 (z k))):=rfl;have ag:Hid (k<=72):=by show _<=_;omega
 generalize (jx h z k).1=L at *
 generalize (jx h z k).2=D at *
 cases D;rotate_left
 .have S:Hid (jx h z (k+1)=(L++(if ba (z k) !=ba h then [z k] else []),true)):=by show _=_;rw[HO.out,show wA h true (z k)=false from rfl];simp
  clear HO;obtain⟨r,p,g,m⟩:=HT.out wr d;obtain⟨J,B,A,E⟩:=dp r p g m;simp only[Nat.zero_add] at p g m B A E;obtain⟨y,F,x,u⟩:=HK.out wr d;obtain⟨P,H,K,M⟩:=dp y F x u;go_wp2_with fail;refine Qxq (by kernel_rfl) (by kernel_rfl) ?_
  repeat(go_big_quiet_step((go_at_call 154;exact Xxz (sy _ _ (by first|exact ad.out|exact ae.out)))))
  refine Qqz ?_;intro X f;have f:=pd f;have d:=d.trans (f.mono d.size);have own:=lv own f;clear r p g m J B A E y F x u P H K M;clear f;cases hc:(ba (z k) !=ba h)
  .have G:Hid (jx h z (k+1)=(L,true)):=by show _=_;rw[S.out,hc];simp
   clear S;obtain⟨r,p,g,m⟩:=HT.out X d;obtain⟨J,B,A,E⟩:=dp r p g m;simp only[Nat.zero_add] at p g m B A E;obtain⟨y,F,x,u⟩:=HK.out X d;obtain⟨P,H,K,M⟩:=dp y F x u;go_wp2_with fail;refine Qxq (by kernel_rfl) (by kernel_rfl) ?_
   repeat(go_big_quiet_step((go_at_call 154;exact Xxz (sy _ _ (by first|exact ad.out|exact ae.out)))))
   refine Qqz ?_;intro wc f;have f:=pd f;have d:=d.trans (f.mono d.size);have own:=lv own f;clear r p g m J B A E y F x u P H K M;clear f;go_wp2_with fail;go_roundw
   case rel=>exact⟨k+1,by omega,by go_num,by rw[G.out],by rw[G.out];exact own,d⟩
   case measure=>simp[intOf];omega
  have G:Hid (jx h z (k+1)=(L++[z k],true)):=by show _=_;rw[S.out,hc];simp
  clear S;obtain⟨r,p,g,m⟩:=HT.out X d;obtain⟨J,B,A,E⟩:=dp r p g m;simp only[Nat.zero_add] at p g m B A E;obtain⟨y,F,x,u⟩:=HK.out X d;obtain⟨P,H,K,M⟩:=dp y F x u;go_wp2_with fail;refine Qxq (by kernel_rfl) (by kernel_rfl) ?_
  repeat(go_big_quiet_step((go_at_call 154;exact Xxz (sy _ _ (by first|exact ad.out|exact ae.out)))))
  refine Qqz ?_;intro wc f;have f:=pd f;have d:=d.trans (f.mono d.size);have own:=lv own f;clear r p g m J B A E y F x u P H K M;clear f;obtain⟨r,p,g,m⟩:=HT.out wc d;obtain⟨J,B,A,E⟩:=dp r p g m;simp only[Nat.zero_add] at p g m B A E;obtain⟨y,F,x,u⟩:=HK.out wc d;obtain⟨P,H,K,M⟩:=dp y F x u;go_wp2_with(at_builtin;refine wpList_append_own _ rfl (.tmp 52) (.tmp 57) 28 rfl Y.heap.size 61 i0 (.agg #[.int .i64 0,.int .i64 0,.int .i64 0,.int .i64 0]) 4 32 underlying28 hi ah ak aj rfl (by decide) _ _ _ rfl (World.ownsRow.alloc own _) ⟨wc.heap.size,0,none⟩ 1 1 (dg (z k)) rfl rfl (Aw _ _ _) (zo _) (by have:=V.out;have:=ag.out;simp;unfold maxLen;omega) (by have:=V.out;have:=ag.out;simp;omega) (by have:=d.size;simp;omega) ?_;intro v2 wd t Q aa);have d:=(d.alloc d.size _).grown Q (by have:=d.size;simp;omega) (λq f=>(World.ownsRow.lt own q f).1);rw[<-wy,show ∀l:List Hd,l.length+1=(l++[(z k)]).length from λl=>by simp] at t;have own:=t;clear r p g m J B A E y F x u P H K M;clear Q aa t;go_wp2_with fail;go_roundw
  case rel=>exact⟨k+1,by omega,by go_num,by rw[G.out],by rw[G.out];exact own,d⟩
  case measure=>simp[intOf];omega
 by_cases U:ba h<=ba (z k);rotate_left
 .have g1:decide (ba h<=ba (z k))=false:=decide_eq_false U;have S:Hid (jx h z (k+1)=(L++(if ba (z k) !=ba h then [z k] else []),false)):=by show _=_;rw[HO.out,show wA h false (z k)=false from by simp[wA,U]];simp
  clear HO;clear U;obtain⟨r,p,g,m⟩:=HT.out wr d;obtain⟨J,B,A,E⟩:=dp r p g m;simp only[Nat.zero_add] at p g m B A E;obtain⟨y,F,x,u⟩:=HK.out wr d;obtain⟨P,H,K,M⟩:=dp y F x u;go_wp2_with fail;refine Qxq (by kernel_rfl) (by kernel_rfl) ?_
  repeat(go_big_quiet_step((go_at_call 154;exact Xxz (sy _ _ (by first|exact ad.out|exact ae.out)))))
  refine Qqz ?_;intro X f;have f:=pd f;have d:=d.trans (f.mono d.size);have own:=lv own f;clear r p g m J B A E y F x u P H K M;clear f;clear g1;cases hc:(ba (z k) !=ba h)
  .have G:Hid (jx h z (k+1)=(L,false)):=by show _=_;rw[S.out,hc];simp
   clear S;obtain⟨r,p,g,m⟩:=HT.out X d;obtain⟨J,B,A,E⟩:=dp r p g m;simp only[Nat.zero_add] at p g m B A E;obtain⟨y,F,x,u⟩:=HK.out X d;obtain⟨P,H,K,M⟩:=dp y F x u;go_wp2_with fail;refine Qxq (by kernel_rfl) (by kernel_rfl) ?_
   repeat(go_big_quiet_step((go_at_call 154;exact Xxz (sy _ _ (by first|exact ad.out|exact ae.out)))))
   refine Qqz ?_;intro wc f;have f:=pd f;have d:=d.trans (f.mono d.size);have own:=lv own f;clear r p g m J B A E y F x u P H K M;clear f;go_wp2_with fail;go_roundw
   case rel=>exact⟨k+1,by omega,by go_num,by rw[G.out],by rw[G.out];exact own,d⟩
   case measure=>simp[intOf];omega
  have G:Hid (jx h z (k+1)=(L++[z k],false)):=by show _=_;rw[S.out,hc];simp
  clear S;obtain⟨r,p,g,m⟩:=HT.out X d;obtain⟨J,B,A,E⟩:=dp r p g m;simp only[Nat.zero_add] at p g m B A E;obtain⟨y,F,x,u⟩:=HK.out X d;obtain⟨P,H,K,M⟩:=dp y F x u;go_wp2_with fail;refine Qxq (by kernel_rfl) (by kernel_rfl) ?_
  repeat(go_big_quiet_step((go_at_call 154;exact Xxz (sy _ _ (by first|exact ad.out|exact ae.out)))))
  refine Qqz ?_;intro wc f;have f:=pd f;have d:=d.trans (f.mono d.size);have own:=lv own f;clear r p g m J B A E y F x u P H K M;clear f;obtain⟨r,p,g,m⟩:=HT.out wc d;obtain⟨J,B,A,E⟩:=dp r p g m;simp only[Nat.zero_add] at p g m B A E;obtain⟨y,F,x,u⟩:=HK.out wc d;obtain⟨P,H,K,M⟩:=dp y F x u;go_wp2_with(at_builtin;refine wpList_append_own _ rfl (.tmp 52) (.tmp 57) 28 rfl Y.heap.size 61 i0 (.agg #[.int .i64 0,.int .i64 0,.int .i64 0,.int .i64 0]) 4 32 underlying28 hi ah ak aj rfl (by decide) _ _ _ rfl (World.ownsRow.alloc own _) ⟨wc.heap.size,0,none⟩ 1 1 (dg (z k)) rfl rfl (Aw _ _ _) (zo _) (by have:=V.out;have:=ag.out;simp;unfold maxLen;omega) (by have:=V.out;have:=ag.out;simp;omega) (by have:=d.size;simp;omega) ?_;intro v2 wd t Q aa);have d:=(d.alloc d.size _).grown Q (by have:=d.size;simp;omega) (λq f=>(World.ownsRow.lt own q f).1);rw[<-wy,show ∀l:List Hd,l.length+1=(l++[(z k)]).length from λl=>by simp] at t;have own:=t;clear r p g m J B A E y F x u P H K M;clear Q aa t;go_wp2_with fail;go_roundw
  case rel=>exact⟨k+1,by omega,by go_num,by rw[G.out],by rw[G.out];exact own,d⟩
  case measure=>simp[intOf];omega
 have g1:decide (ba h<=ba (z k))=true:=decide_eq_true U;have S:Hid (jx h z (k+1)=((L++[h])++(if ba (z k) !=ba h then [z k] else []),true)):=by show _=_;rw[HO.out,show wA h false (z k)=true from by simp[wA,U]];simp
 clear HO;clear U;obtain⟨r,p,g,m⟩:=HT.out wr d;obtain⟨J,B,A,E⟩:=dp r p g m;simp only[Nat.zero_add] at p g m B A E;obtain⟨y,F,x,u⟩:=HK.out wr d;obtain⟨P,H,K,M⟩:=dp y F x u;go_wp2_with fail;refine Qxq (by kernel_rfl) (by kernel_rfl) ?_
 repeat(go_big_quiet_step((go_at_call 154;exact Xxz (sy _ _ (by first|exact ad.out|exact ae.out)))))
 refine Qqz ?_;intro wa f;have f:=pd f;have d:=d.trans (f.mono d.size);have own:=lv own f;clear r p g m J B A E y F x u P H K M;clear f;obtain⟨r,p,g,m⟩:=HT.out wa d;obtain⟨J,B,A,E⟩:=dp r p g m;simp only[Nat.zero_add] at p g m B A E;obtain⟨y,F,x,u⟩:=HK.out wa d;obtain⟨P,H,K,M⟩:=dp y F x u;go_wp2_with(at_builtin;refine wpList_append_own _ rfl (.tmp 40) (.tmp 42) 28 rfl Y.heap.size 61 i0 (.agg #[.int .i64 0,.int .i64 0,.int .i64 0,.int .i64 0]) 4 32 underlying28 hi ah ak aj rfl (by decide) _ _ _ rfl (World.ownsRow.alloc own _) ⟨wa.heap.size,0,none⟩ 1 1 (dg h) rfl rfl (Aw _ _ _) (zo _) (by have:=V.out;have:=ag.out;unfold maxLen;omega) (by have:=V.out;have:=ag.out;omega) (by have:=d.size;simp;omega) ?_;intro v2 X t Q aa);have d:=(d.alloc d.size _).grown Q (by have:=d.size;simp;omega) (λq f=>(World.ownsRow.lt own q f).1);rw[<-wy,show ∀l:List Hd,l.length+1=(l++[h]).length from λl=>by simp] at t;have own:=t;clear r p g m J B A E y F x u P H K M;clear Q aa t g1;cases hc:(ba (z k) !=ba h)
 .have G:Hid (jx h z (k+1)=((L++[h]),true)):=by show _=_;rw[S.out,hc];simp
  clear S;obtain⟨r,p,g,m⟩:=HT.out X d;obtain⟨J,B,A,E⟩:=dp r p g m;simp only[Nat.zero_add] at p g m B A E;obtain⟨y,F,x,u⟩:=HK.out X d;obtain⟨P,H,K,M⟩:=dp y F x u;go_wp2_with fail;refine Qxq (by kernel_rfl) (by kernel_rfl) ?_
  repeat(go_big_quiet_step((go_at_call 154;exact Xxz (sy _ _ (by first|exact ad.out|exact ae.out)))))
  refine Qqz ?_;intro wc f;have f:=pd f;have d:=d.trans (f.mono d.size);have own:=lv own f;clear r p g m J B A E y F x u P H K M;clear f;go_wp2_with fail;go_roundw
  case rel=>exact⟨k+1,by omega,by go_num,by rw[G.out],by rw[G.out];exact own,d⟩
  case measure=>simp[intOf];omega
 have G:Hid (jx h z (k+1)=((L++[h])++[z k],true)):=by show _=_;rw[S.out,hc];simp
 clear S;obtain⟨r,p,g,m⟩:=HT.out X d;obtain⟨J,B,A,E⟩:=dp r p g m;simp only[Nat.zero_add] at p g m B A E;obtain⟨y,F,x,u⟩:=HK.out X d;obtain⟨P,H,K,M⟩:=dp y F x u;go_wp2_with fail;refine Qxq (by kernel_rfl) (by kernel_rfl) ?_
 repeat(go_big_quiet_step((go_at_call 154;exact Xxz (sy _ _ (by first|exact ad.out|exact ae.out)))))
 refine Qqz ?_;intro wc f;have f:=pd f;have d:=d.trans (f.mono d.size);have own:=lv own f;clear r p g m J B A E y F x u P H K M;clear f;obtain⟨r,p,g,m⟩:=HT.out wc d;obtain⟨J,B,A,E⟩:=dp r p g m;simp only[Nat.zero_add] at p g m B A E;obtain⟨y,F,x,u⟩:=HK.out wc d;obtain⟨P,H,K,M⟩:=dp y F x u;go_wp2_with(at_builtin;refine wpList_append_own _ rfl (.tmp 52) (.tmp 57) 28 rfl Y.heap.size 61 i0 (.agg #[.int .i64 0,.int .i64 0,.int .i64 0,.int .i64 0]) 4 32 underlying28 hi ah ak aj rfl (by decide) _ _ _ rfl (World.ownsRow.alloc own _) ⟨wc.heap.size,0,none⟩ 1 1 (dg (z k)) rfl rfl (Aw _ _ _) (zo _) (by have:=V.out;have:=ag.out;simp;unfold maxLen;omega) (by have:=V.out;have:=ag.out;simp;omega) (by have:=d.size;simp;omega) ?_;intro v2 wd t Q aa);have d:=(d.alloc d.size _).grown Q (by have:=d.size;simp;omega) (λq f=>(World.ownsRow.lt own q f).1);rw[<-wy,show ∀l:List Hd,l.length+1=(l++[(z k)]).length from λl=>by simp] at t;have own:=t;clear r p g m J B A E y F x u P H K M;clear Q aa t;go_wp2_with fail;go_roundw
 case rel=>exact⟨k+1,by omega,by go_num,by rw[G.out],by rw[G.out];exact own,d⟩
 case measure=>simp[intOf];omega
def xh(k:Nat)(f:Nat->Hd):List Hd:=(List.range k).map f
theorem qs(k:Nat)(f:Nat->Hd):xh (k+1) f=xh k f++[f k]:=by simp[xh,List.range_succ]
theorem Xb(k:Nat)(f:Nat->Hd):(xh k f).length=k:=by simp[xh]
theorem Mi(f:Nat->Hd):∀k,I9 (xh k f)=ax k f
 | 0=>rfl
 | k+1=>by rw[qs,wy,Mi f k,tx]
theorem Xx{h x:Hd}(e:ba h<=ba x):wA h false x=true:=by simp[wA,e]
theorem aaa{h x:Hd}(e:ba x<ba h):wA h false x=false:=by simp[wA];omega
theorem Nz(h x:Hd):wA h true x=false:=rfl
theorem Ix{h:Hd}{z:Nat->Hd}{k:Nat}{L:List Hd}{D:Bool}(e:jx h z k=(L,D)):jx h z (k+1)=(L++(if wA h D (z k) then [h] else [])++(if ba (z k) !=ba h then [z k] else []),D||wA h D (z k)):=by rw[jx,e]
section
variable {h:Hd} {z:Nat->Hd} {n p:Nat} (hlo:∀ j,j<p->ba (z j)<ba h) (hhi:∀ j,p<j->j<n->ba h<ba (z j))
include hlo hhi
theorem Rt(a:ba (z p)=ba h)(b:¬h.n=0):∀k,k<=n->jx h z k=(xh k (qu z p h),decide (p<k))
 | 0,_=>by simp[jx,xh,b]
 | k+1,hk=>by
  rw[Ix (Rt a b k (by omega)),qs];unfold qu;rcases Nat.lt_trichotomy k p with c|c|c
  .have:=hlo k c;rw[decide_eq_false (by omega:¬p<k),decide_eq_false (by omega:¬p<k+1),aaa this,if_neg (by omega:¬k=p),if_pos (by simp;omega:(ba (z k) !=ba h)=true)];simp
  .subst c;rw[decide_eq_false (by omega:¬k<k),decide_eq_true (by omega:k<k+1),Xx (by omega),if_pos (rfl:k=k),if_neg (by simp;omega:¬(ba (z k) !=ba h)=true)];simp
  have:=hhi k c (by omega);rw[decide_eq_true c,decide_eq_true (by omega:p<k+1),Nz,if_neg (by omega:¬k=p),if_pos (by simp;omega:(ba (z k) !=ba h)=true)];simp
theorem Rr(a:p<n->ba h<ba (z p))(b:¬h.n=0):∀k,k<=n->jx h z k=(xh (if k<=p then k else k+1) (lw z p h),decide (p<k))
 | 0,_=>by simp[jx,xh,b]
 | k+1,hk=>by
  rw[Ix (Rr a b k (by omega))];rcases Nat.lt_trichotomy k p with c|c|c
  .have:=hlo k c;rw[decide_eq_false (by omega:¬p<k),decide_eq_false (by omega:¬p<k+1),aaa this,if_pos (by omega:k<=p),if_pos (by omega:k+1<=p),qs,show lw z p h k=z k by unfold lw;rw[if_pos c],if_pos (by simp;omega:(ba (z k) !=ba h)=true)];simp
  .subst c;have:=a (by omega);rw[decide_eq_false (by omega:¬k<k),decide_eq_true (by omega:k<k+1),Xx (by omega),if_pos (Nat.le_refl k),if_neg (by omega:¬k+1<=k),qs,qs,show lw z k h k=h by unfold lw;rw[if_neg (by omega),if_pos rfl],show lw z k h (k+1)=z k by unfold lw;rw[if_neg (by omega),if_neg (by omega)];rfl,if_pos (by simp;omega:(ba (z k) !=ba h)=true)];simp
  have:=hhi k c (by omega);rw[decide_eq_true c,decide_eq_true (by omega:p<k+1),Nz,if_neg (by omega:¬k<=p),if_neg (by omega:¬k+1<=p),qs (k+1),show lw z p h (k+1)=z k by unfold lw;rw[if_neg (by omega),if_neg (by omega)];rfl,if_pos (by simp;omega:(ba (z k) !=ba h)=true)];simp
theorem Pf(a:ba (z p)=ba h)(b:h.n=0):∀k,k<=n->jx h z k=(xh (if k<=p then k else k-1) (fp z p),true)
 | 0,_=>by simp[jx,xh,b]
 | k+1,hk=>by
  rw[Ix (Pf a b k (by omega)),Nz];rcases Nat.lt_trichotomy k p with c|c|c
  .have:=hlo k c;rw[if_pos (by omega:k<=p),if_pos (by omega:k+1<=p),qs,show fp z p k=z k by unfold fp;rw[if_pos c],if_pos (by simp;omega:(ba (z k) !=ba h)=true)];simp
  .subst c;rw[if_pos (Nat.le_refl k),if_neg (by omega:¬k+1<=k),if_neg (by simp;omega:¬(ba (z k) !=ba h)=true)];simp
  have:=hhi k c (by omega);obtain⟨m,rfl⟩:∃m,k=m+1:=⟨k-1,by omega⟩;rw[if_neg (by omega:¬m+1<=p),if_neg (by omega:¬m+1+1<=p),Nat.add_sub_cancel,Nat.add_sub_cancel,qs m,show fp z p m=z (m+1) by unfold fp;rw[if_neg (by omega)],if_pos (by simp;omega:(ba (z (m+1)) !=ba h)=true)];simp
end
theorem Kv{s:Hs}{h:Hd}{w:World}{m:Nat}{f:Nat->Hd}(e:Ku h s.n s.z=xh m f)(hs:s.At w)(j:aw s.n (cz s.z)=false)(d:A5 h):
  Calls prog 119 #[s.val,.int .i64 h.o,.int .i64 h.l,.int .i64 h.b,.int .i64 h.n] w λe c=>∃a:Hs,e = .returned a.val/\cy w.heap.size 61 c a/\a.n=m/\a.z=f/\Below w.heap.size w c:=by
 refine(Zv s h w hs j d).mono λe' c ⟨v,h1,h2,h3⟩=> ?_;rw[e,Xb,Mi] at h2;obtain⟨a,i,p,k,g⟩:=cy.ofRow h2 nlr;exact⟨a,by rw[h1,i],p,k,g,h3⟩
theorem Pg(s:Hs)(h:Hd)(p:Nat)(w:World)(hs:s.At w)(k:aw s.n (cz s.z)=false)(c:A5 h)(q:p<s.n)(f:ba (s.z p)=ba h)(m:¬h.n=0)(d:∀j,j<p->ba (s.z j)<ba h)(g:∀j,p<j->j<s.n->ba h<ba (s.z j)):
  Calls prog 119 #[s.val,.int .i64 h.o,.int .i64 h.l,.int .i64 h.b,.int .i64 h.n] w λe i=>∃a:Hs,e = .returned a.val/\cy w.heap.size 61 i a/\a.n=s.n/\a.z=qu s.z p h/\Below w.heap.size w i :=
 Kv (by unfold Ku;rw[Rt d g f m s.n nlr,decide_eq_true q];rfl) hs k c
theorem X4(s:Hs)(h:Hd)(p:Nat)(w:World)(hs:s.At w)(q:aw s.n (cz s.z)=false)(d:A5 h)(t:p<=s.n)(i:p<s.n->ba h<ba (s.z p))(r:¬h.n=0)(g:∀j,j<p->ba (s.z j)<ba h)(k:∀j,p<j->j<s.n->ba h<ba (s.z j)):
  Calls prog 119 #[s.val,.int .i64 h.o,.int .i64 h.l,.int .i64 h.b,.int .i64 h.n] w λe m=>∃a:Hs,e = .returned a.val/\cy w.heap.size 61 m a/\a.n=s.n+1/\a.z=lw s.z p h/\Below w.heap.size w m :=
 Kv (by
  unfold Ku;rw[Rr g k i r s.n nlr];by_cases c:p<s.n
  .rw[decide_eq_true c,if_neg (by omega:¬s.n<=p)];rfl
  have f:p=s.n:=by omega
  subst f;rw[decide_eq_false (by omega),if_pos nlr,qs,show lw s.z s.n h s.n=h by unfold lw;rw[if_neg (by omega),if_pos rfl]]
  rfl) hs q d
theorem Mz(s:Hs)(h:Hd)(p:Nat)(w:World)(hs:s.At w)(k:aw s.n (cz s.z)=false)(c:A5 h)(q:p<s.n)(f:ba (s.z p)=ba h)(m:h.n=0)(d:∀j,j<p->ba (s.z j)<ba h)(g:∀j,p<j->j<s.n->ba h<ba (s.z j)):
  Calls prog 119 #[s.val,.int .i64 h.o,.int .i64 h.l,.int .i64 h.b,.int .i64 h.n] w λe i=>∃a:Hs,e = .returned a.val/\cy w.heap.size 61 i a/\a.n=s.n-1/\a.z=fp s.z p/\Below w.heap.size w i :=
 Kv (by unfold Ku;rw[Pf d g f m s.n nlr,if_neg (by omega:¬s.n<=p)];rfl) hs k c
theorem Pm(r s:Hs)(w:World)(u:r.At w)(hs:s.At w)(B:r.n=s.n)(h:∀j,j<r.n->r.z j=s.z j):
  Calls prog 29 #[r.val,s.val] w λe v=>e = .returned (.bool true)/\Below w.heap.size w v:=by
 obtain⟨ra,f,L,A⟩:=r;obtain⟨sa,M,K,S⟩:=s;obtain⟨H,d,q,_⟩:=u;obtain⟨G,c,sh,_⟩:=hs;dsimp only at *;subst B;have x:=hid h;clear h;unfold maxLen at d c;simp only[Hs.val];go_enter func29,ntmps29;go_wp2_with fail
 go_loopw [5] (λi y=>∃k:Nat,k<=f/\i = .int .i64 k/\Below w.heap.size w y) (λi _=>f-(intOf i).toNat)
 case atStart=>exact⟨0,Qxz _,rfl,Below.refl _ _⟩
 obtain⟨k,T,rfl,b⟩:=hrel;by_cases a:k<f
 .obtain⟨b1,Q,rfl,F,D,E,p,t⟩:=(q.below b) k a;obtain⟨b2,P,rfl,J,o,l,m,g⟩:=(sh.below b) k a;rw[<-x.out k a] at o l m g
  generalize A k=Z at D E p t o l m g
  go_wp2_with fail
  go_quiet (fail)
  go_wp2_with fail;go_roundw
  case rel=>exact⟨k+1,by omega,by go_num,below_drewN b _⟩
  case measure=>simp[intOf];omega
 go_wp2_with fail;go_ret;exact⟨rfl,b⟩
theorem rp{n:Nat}{z:Nat->Hd}{o l b:Int}(f:aw n (cz z)=false)(i:¬keptV n z o l b=0):
  jg n z o l b<n/\be (z (jg n z o l b)) o l b=true/\keptV n z o l b=(z (jg n z o l b)).n/\(∀j,j<jg n z o l b->ba (z j)<ba (z (jg n z o l b)))/\(∀j,jg n z o l b<j->j<n->ba (z (jg n z o l b))<ba (z j)):=by
 rcases qz n z o l b with h|⟨k,a,g,d⟩
 .exact absurd (kc h) i
 rw[Fs a g d];exact⟨a,d,mg a g d,λj c=>mp f j k c a,λj c e=>mp f k j c e⟩
theorem Dy{x:Hd}{o l b n:Int}(h:be x o l b=true):ba x=ba ⟨o,l,b,n⟩:=by
 have a:=fh h;simp[ba,a]
theorem Xh{x:Hd}{o l b n:Int}(h:be x o l b=true)(hx:gx x=true):A5 ⟨o,l,b,n⟩:=by
 have a:=fh h;have r:=Mq hx;unfold A5 at r ⊢;rw[a.1,a.2.1,a.2.2] at r;exact r
def i8(ops:Array Oper)(i:Nat):List Nat:=match ops[i]? with
 | none=>[]
 | some o=>(o.after.toList.filter (λe=>Region.binds .any e)).map (λe=>e.on)
def ip(listed:Array Bool):List Nat->Array Bool
 | []=>listed
 | i :: r=>ip (listed.setIfInBounds i true) r
def sd(ops:Array Oper):List Nat->Array Bool->Bool
 | [],_=>true
 | i :: r,listed=>(Region.ready .any ops listed).contains i&&Region.free .any ops listed i&&sd ops r (listed.setIfInBounds i true)
def Mx(ops:Array Oper)(L:Array Bool):List Nat->List Nat->Bool
 | _,[]=>true
 | seen,i :: r=>(i8 ops i).all (λd=>L.getD d false||seen.contains d)&&Mx ops L (i :: seen) r
def bu(ops:Array Oper)(i:Nat):Option Tmp:=match ops[i]? with
 | none=>none
 | some o=>o.dst
def Dv(ops:Array Oper)(rem:List Nat)(L:Array Bool):Bool :=
 (List.range ops.size).all (λi=>L.getD i true||rem.contains i||rem.all (λr=>(i8 ops i).contains r)) &&
 Mx ops L [] rem&&rem.all (λr=>decide (r<ops.size) && !L.getD r true)&&decide (L.size=ops.size)&&decide ((rem.map (bu ops)).Nodup)&&rem.all (λr=>(bu ops r).isSome)
theorem zk:∀(l:List Nat) (a:Array Bool),(ip a l).size=a.size
 | [],_=>rfl
 | i :: r,a=>by rw[ip,zk r];simp
theorem Av:∀(l:List Nat) (a:Array Bool) (j:Nat),j<a.size->(ip a l)[j]?=if j∈l then some true else a[j]?
 | [],a,j,_=>by simp[ip]
 | i :: r,a,j,hj=>by
  rw[ip,Av r _ j (by simpa using hj),Array.getElem?_setIfInBounds];by_cases b:j∈r
  .simp[b]
  by_cases c:i=j
  .subst c;simp[b,hj]
  have d:¬j=i:=λe=>c e.symm;simp[b,c,d]
def am(ops:Array Oper)(rem:List Nat)(V:Nat->Value)(a:Act):Act:=match rem with
 | []=>a
 | i :: r=>am ops r V (a.put (bu ops i) (V i))
theorem Zc(a:Act)(d:Option Tmp):a.put d (match d with|some d=>a.tmps.getD d undef|none=>undef)=a:=by
 cases d with
 | none=>rfl
 | some d =>
  cases a with
  | mk tmps defers =>
   simp only[Act.put]
   congr 1
   apply Array.ext_getElem?
   intro i;rw[Array.getElem?_setIfInBounds];by_cases h:d=i
   .subst h;by_cases b:d<tmps.size
    .simp[b,Array.getD]
    simp[b]
   simp[h]
theorem aav(a:Act)(d:Option Tmp)(u v:Value):(a.put d u).put d v=a.put d v:=by
 cases d with
 | none=>rfl
 | some d =>
  simp only[Act.put]
  congr 1
  apply Array.ext_getElem?
  intro i;simp only[Array.getElem?_setIfInBounds,Array.size_setIfInBounds];by_cases h:d=i<;>simp[h]
theorem Zd(a:Act){d b:Option Tmp}(u v:Value)(h:d≠b):(a.put d u).put b v=(a.put b v).put d u:=by
 cases d with
 | none=>rfl
 | some d=>cases b with
  | none=>rfl
  | some b =>
   have g:d≠b:=λe=>h (by rw[e]);simp only[Act.put]
   congr 1
   apply Array.ext_getElem?
   intro i;simp only[Array.getElem?_setIfInBounds,Array.size_setIfInBounds];by_cases c:d=i
   .have f:¬b=i:=λe=>g (c.trans e.symm);simp[c,f]
   by_cases f:b=i<;>simp[c,f]
def upd(V:Nat->Value)(i:Nat)(v:Value)(j:Nat):Value:=if j=i then v else V j
theorem Ii{c:Array Oper}:∀{b:List Nat} {V d:Nat->Value} {a:Act},(∀j∈b,V j=d j)->am c b V a=am c b d a
 | [],_,_,_,_=>rfl
 | i :: r,V,d,a,h=>by
  rw[am,am,h i (by simp)];exact Ii λj e=>h j (by simp[e])
theorem J3{b:Array Oper}{d:Option Tmp}{v:Value}:∀{c:List Nat} {V:Nat->Value} {a:Act},d ∉ c.map (bu b)->am b c V (a.put d v)=(am b c V a).put d v
 | [],_,_,_=>rfl
 | i :: r,V,a,h=>by
  simp only[List.map_cons,List.mem_cons,not_or] at h;rw[am,am,Zd a _ _ h.1];exact J3 h.2
theorem xp{c:Array Oper}{i:Nat}{v:Value}:∀{b:List Nat} {V:Nat->Value} {a:Act},(b.map (bu c)).Nodup->i∈b->(am c b V a).put (bu c i) v=am c b (upd V i v) a
 | [],_,_,_,hi=>by simp at hi
 | k :: r,V,a,hn,hi=>by
  simp only[List.map_cons,List.nodup_cons] at hn;rw[am,am];by_cases f:k=i
  .subst f;have l:k ∉ r:=λh=>hn.1 (List.mem_map.2 ⟨k,h,rfl⟩);rw[<-J3 hn.1,aav];have d:upd V k v k=v:=if_pos rfl;rw[d];exact Ii λj m=>(if_neg (λe:j=k=>l (by rw[<-e];exact m))).symm
  have d:upd V i v k=V k:=if_neg f;rw[d];have g:i∈r:=by
   rcases List.mem_cons.1 hi with h|h
   .exact absurd h.symm f
   exact h
  exact xp hn.2 g
theorem uw{b:Array Oper}(a:Act):∀(c:List Nat),am b c (λi=>match bu b i with|some d=>a.tmps.getD d undef|none=>undef) a=a
 | []=>rfl
 | i :: r=>by
  rw[am,Zc];exact uw a r
theorem ay{P:Program}{l:List Oper}{Q:Exit->Act->World->Prop}{K:Act->World->Prop}(k:Nat){o:Oper}{a:Act}{w:World}(d:l[k]?=some o)
  (h:wpList P l.toArray (Exit.then K Q) [o] a w):wpOp P l.toArray Q k K a w:=by
 unfold wpOp;simp only[Qvz,d];unfold wpList at h
 split
 .rename_i b;rw[if_pos b] at h;rcases h with h|⟨e,f⟩
  .exact .inl (Oper.wp_then (Oper.wp_mono (λi g c=>c) h))
  exact .inr ⟨e,f⟩
 rename_i b;rw[if_neg b] at h;exact h
theorem yw{P:Program}{l:List Oper}{Q:Exit->Act->World->Prop}{S:World->Prop}{K:Act->Prop}{w:World}{fuel:Nat}(hs:Region.noSelect l.toArray=true)(e:S w)(f:∀c a a' w,Q (.panic c) a w->Q (.panic c) a' w):
  ∀(d:List Nat) (os:List Oper) (b:Array Bool) (a:Act),sd l.toArray d b=true->d.map (λk=>l[k]?)=os.map some->(os.all yh)=true ->
   wpQuiet P l.toArray S K os a->(∀a,K a->wpAnyH P .any l.toArray Q S fuel (ip b d) a w)->wpAnyH P .any l.toArray Q S (d.length+fuel) b a w
 | [],[],b,a,_,_,_,h,hK=>by rw[List.length_nil,Nat.zero_add];exact hK a h
 | k :: d,o :: os,b,a,hB,hk,hv,h,hK=>by
  simp only[List.map_cons,List.cons.injEq] at hk;simp only[List.all_cons,Xxx] at hv;simp only[sd,Xxx] at hB;rw[List.length_cons,Nat.add_right_comm];unfold wpQuiet at h
  split at h
  .rename_i g;obtain⟨v,p,q⟩:=h;refine wpAnyH_take (by simpa using hk.1) hs hB.1.2 hB.1.1 (λc a w i=>f _ _ _ _ i) (.inl ⟨g,λm e => ?_⟩) e (yw hs e f d os _ _ hB.2 hk.2 hv.2 q hK);have:=p m e;unfold Oper.quietAt at this;cases j:(execOp a.eval o).run P m with
   | ok n w2 =>
    rw[j] at this;obtain⟨u,rfl⟩:=Bj hv.1 j;simp only[Oper.quietUpon] at this;rw[this.1,this.2]
   | halt x w2=>rw[j] at this;exact this.elim
  rename_i g;exact wpAnyH_take (by simpa using hk.1) hs hB.1.2 hB.1.1 (λc a w i=>f _ _ _ _ i) (.inr ⟨by simpa using g,rfl⟩) e (yw hs e f d os _ _ hB.2 hk.2 hv.2 h hK)
 | [],_ :: _,_,_,_,hk,_,_,_=>by simp at hk
 | _ :: _,[],_,_,_,hk,_,_,_=>by simp at hk
theorem xv{b:Array Oper}{L a:Array Bool}(k:a.size=b.size):∀(seen c:List Nat),Mx b L seen c=true->(∀d,L.getD d false=true->a.getD d false=true)->(∀d∈seen,a.getD d false=true) ->
  (∀r∈c,r<b.size)->(∃r∈c,a.getD r true=false)->∃r∈c,r∈Region.ready .any b a
 | _,[],_,_,_,_,h=>by obtain⟨r,s,_⟩:=h;simp at s
 | seen,i :: r,hT,hL,hs,hlt,h=>by
  simp only[Mx,Xxx] at hT;by_cases hi:a.getD i true=false
  .refine⟨i,by simp,mem_ready.2 ⟨hi,b[i]'(hlt i (by simp)),by simp[hlt i (by simp)],λe o t => ?_⟩⟩;have hd:e.on∈i8 b i:=by
    unfold i8;simp only[Array.getElem?_eq_getElem (hlt i (by simp))];exact List.mem_map.2 ⟨e,List.mem_filter.2 ⟨by simpa using o,t⟩,rfl⟩
   have:=List.all_eq_true.1 hT.1 _ hd;simp only[Bool.or_eq_true,List.contains_iff_mem] at this;rcases this with g|g
   .exact hL _ g
   exact hs _ g
  obtain⟨q,p,f⟩:=h;have l:q∈r:=by
   rcases List.mem_cons.1 p with e|e
   .subst e;exact absurd f hi
   exact e
  obtain⟨x,hx,m⟩:=xv k (i :: seen) r hT.2 hL (λd hd=>by
   rcases List.mem_cons.1 hd with e|e
   .subst e;have:a.getD d true=true:=by simpa using hi
    by_cases j:d<a.size
    .simpa[Array.getD,j] using this
    exfalso;have n:a.size<=d:=by omega
    exact j (by
     have:=hlt d (by simp);omega)
   exact hs d e) (λx hx=>hlt x (by simp[hx])) ⟨q,l,f⟩
  exact⟨x,by simp[hx],m⟩
theorem Y5{P:Program}{c:Array Oper}{Q:Exit->Act->World->Prop}{S:World->Prop}{b:List Nat}{L:Array Bool}{a1:Act}{D:Nat->Value->World->Prop}{fuel:Nat}(hB:Dv c b L=true)
  (mono:∀j∈b,∀v w t,Below w.heap.size w t->D j v w->D j v t)
  (step:∀i∈b,∀(V:Nat->Value) (w:World),S w->(∀d∈i8 c i,d∈b->D d (V d) w)->wpOp P c Q i (λa' t=>∃v,a'=(am c b V a1).put (bu c i) v/\S t/\Below w.heap.size w t/\D i v t) (am c b V a1) w)
  (done:∀(V:Nat->Value) (w:World),S w->(∀j∈b,D j (V j) w)->wpAnyH P .any c Q S fuel (ip L b) (am c b V a1) w) :
  ∀(m:Nat) (a:Array Bool) (V:Nat->Value) (w:World),(b.filter (λr => !a.getD r true)).length=m->a.size=c.size->(∀j,j ∉ b->a[j]?=L[j]?)->S w->(∀j∈b,a.getD j true=true->D j (V j) w) ->
   wpAnyH P .any c Q S (m+fuel) a (am c b V a1) w:=by
 simp only[Dv,Xxx,decide_eq_true_eq] at hB;obtain⟨⟨⟨⟨⟨ac,U⟩,af⟩,a8⟩,W⟩,a5⟩:=hB;have l:∀r∈b,r<c.size/\L.getD r true=false:=λr G=>by
  have:=List.all_eq_true.1 af r G
  simpa using this
 intro m
 induction m with
 | zero =>
  intro a V w F u s hS T;have M:∀r∈b,a.getD r true=true:=λr G=>by
   cases hq:a.getD r true
   .have:r∈b.filter (λr => !a.getD r true):=List.mem_filter.2 ⟨G,by simp[hq]⟩;rw[List.length_eq_zero_iff.1 F] at this;simp at this
   rfl
  have hl:a=ip L b:=by
   apply Array.ext_getElem?
   intro j;by_cases g:j<L.size
   .rw[Av b L j g];by_cases z:j∈b
    .rw[if_pos z];have k:=M j z;have f:j<a.size:=by omega
     simp only[Array.getD,f,dif_pos] at k;simp[f];exact k
    rw[if_neg z];exact s j z
   rw[Array.getElem?_eq_none (by omega),Array.getElem?_eq_none (by rw[zk];omega)]
  rw[Nat.zero_add,hl];exact done V w hS λj g=>T j g (M j g)
 | succ m ih =>
  intro a V w F u s hS T;have Y:∃r∈b,a.getD r true=false:=by
   have al:b.filter (λr => !a.getD r true)≠[]:=λe=>by rw[e] at F;simp at F
   obtain⟨x,hx⟩:=List.exists_mem_of_ne_nil _ al;have:=List.mem_filter.1 hx;exact⟨x,this.1,by simpa using this.2⟩
  have ak:∀d,L.getD d false=true->a.getD d false=true:=λd hd=>by
   by_cases n:d∈b
   .have k:=(l d n).2;have f:d<L.size:=by have:=(l d n).1;omega
    simp only[Array.getD,f,dif_pos] at k hd;rw[k] at hd;cases hd
   have k:=s d n;by_cases f:d<L.size
   .have E:d<a.size:=by omega
    simp only[Array.getD,f,E,dif_pos] at hd ⊢;simp only[Array.getElem?_eq_getElem f,Array.getElem?_eq_getElem E,Qkx] at k;rw[Array.getInternal_eq_getElem] at hd ⊢;rw[k];exact hd
   simp[Array.getD,f] at hd
  obtain⟨r0,a7,ai⟩:=xv u [] b U ak (λd hd=>by simp at hd) (λr G=>(l r G).1) Y;rw[Nat.add_right_comm];refine⟨λh0=>absurd (h0▸ai) (by simp),λi hi => ?_⟩;obtain⟨y,o,ho,ag⟩:=mem_ready.1 hi;have A:∀d∈i8 c i,a.getD d false=true:=λd hd=>by
   unfold i8 at hd;rw[ho] at hd;obtain⟨e,he,rfl⟩:=List.mem_map.1 hd;have:=List.mem_filter.1 he;exact ag e (by simpa using this.1) this.2
  have X:∀d,a.getD d false=true->a.getD d true=true:=λd hd=>by
   by_cases f:d<a.size
   .simpa[Array.getD,f] using hd
   simp[Array.getD,f]
  have p:i∈b:=by
   cases hc:b.contains i;rotate_left
   .exact Qjz hc
   exfalso;have ax:i<c.size:=(Qkq ho).1;have az:i ∉ b:=λh=>by
    have:=List.contains_iff_mem.2 h;rw[this] at hc;cases hc
   have k:=List.all_eq_true.1 ac i (List.mem_range.2 ax);have aj:L.getD i true=false:=by
    have f:=s i az;have E:i<L.size:=by omega
    have h4:i<a.size:=by omega
    simp only[Array.getElem?_eq_getElem E,Array.getElem?_eq_getElem h4,Qkx] at f;simp only[Array.getD,E,h4,dif_pos] at y ⊢;rw[Array.getInternal_eq_getElem] at y ⊢;rw[<-f];exact y
   rw[aj,hc] at k;simp only[Bool.false_or] at k;obtain⟨q,hq,aw⟩:=Y;have h5:=List.all_eq_true.1 k q hq;have h6:=X q (A q (Qjz h5));rw[aw] at h6;cases h6
  refine wpOp_mono (λa' t h => ?_) (step i p V w hS λd hd n=>T d n (X d (A d hd)));obtain⟨v,rfl,aa,ae,au⟩:=h;refine⟨aa,?_⟩;rw[xp W p];have av:i<a.size:=by rw[u];exact(l i p).1
  have H:∀j,(a.setIfInBounds i true).getD j true=if j=i then true else a.getD j true:=λj=>by
   by_cases g:j=i
   .subst g;simp[Array.getD,av]
   rw[if_neg g,getD_set_ne true (λe=>g e.symm)]
  refine ih (a.setIfInBounds i true) (upd V i v) t ?_ (by simpa using u) (λj g => ?_) aa (λj g ab => ?_)
  .have J:b.Nodup:=by
    exact(List.pairwise_map.1 W).imp (λh e=>h (by rw[e]))
   have e1:(b.filter (λr => !a.getD r true))=b.filter (λr => !a.getD r true):=rfl;have K:(b.filter (λr => !(a.setIfInBounds i true).getD r true))=(b.filter (λr => !a.getD r true)).erase i:=by
    have e2:b.filter (λr => !(a.setIfInBounds i true).getD r true)=(b.filter (λr => !a.getD r true)).filter (λr=>r !=i):=by
     rw[List.filter_filter];refine List.filter_congr λx hx => ?_;rw[H x];by_cases ay:x=i<;>simp[ay]
    rw[e2,<-List.Nodup.erase_eq_filter (J.filter _)]
   rw[K,List.length_erase_of_mem (List.mem_filter.2 ⟨p,by simp[y]⟩),F]
   rfl
  .rw[Array.getElem?_setIfInBounds,if_neg (λe:i=j=>g (by rw[<-e];exact p))];exact s j g
  unfold upd;by_cases B:j=i
  .subst B;rw[if_pos rfl];exact au
  rw[if_neg B];rw[H j,if_neg B] at ab;exact mono j g _ _ _ ae (T j g ab)
def dv(l:List Oper):List Nat->List Oper
 | []=>[]
 | k :: ks=>(l.drop k).take 1++dv l ks
theorem Az{l:List Oper}:∀{a:List Nat},a.all (λk=>decide (k<l.length))=true->a.map (λk=>l[k]?)=(dv l a).map some
 | [],_=>rfl
 | k :: a,h=>by
  simp only[List.all_cons,Xxx,decide_eq_true_eq] at h;have b:(l.drop k).take 1=[l[k]'h.1]:=by
   rw[List.drop_eq_getElem_cons h.1]
   rfl
  rw[dv,b,List.map_cons,List.singleton_append,List.map_cons,List.getElem?_eq_getElem h.1,Az h.2]
def Made(P:Program)(ops:Array Oper)(Q:Exit->Act->World->Prop)(S:World->Prop)(rem:List Nat)(ord:List (Bool × Nat))(a1:Act):Prop :=
 ∃D:Nat->Value->World->Prop,(∀j∈rem,∀v w w',Below w.heap.size w w'->D j v w->D j v w') /\
  (∀i∈rem,∀(V:Nat->Value) (w:World) (K:Act->World->Prop),S w->(∀d∈i8 ops i,d∈rem->D d (V d) w)->(∀v w',S w'->Below w.heap.size w w'->D i v w'->K ((am ops rem V a1).put (bu ops i) v) w')->wpOp P ops (NoPanic Q) i K (am ops rem V a1) w) /\
  (∀(V:Nat->Value) (w:World),S w->(∀j∈rem,D j (V j) w)->yi P ops (NoPanic Q) S ord (am ops rem V a1) w)
theorem Fd{P:Program}{l:List Oper}{Q:Exit->Act->World->Prop}{id:Nat}{a:Act}{w:World}(S:World->Prop)(e b:List Nat)(f:List (Bool × Nat))(m:S w.drew)(h:wpQuiet P l.toArray S (Made P l.toArray Q S b f) (dv l e) a)(K:P.follows .mixedOrders=true:=by kernel_rfl)(hs:Region.noSelect l.toArray=true:=by kernel_rfl)(x:sd l.toArray e (Array.replicate l.length false)=true:=by kernel_rfl)(s:e.all (λk=>decide (k<l.length))=true:=by kernel_rfl)(z:((dv l e).all yh)=true:=by kernel_rfl)(q:Dv l.toArray b (ip (Array.replicate l.length false) e)=true:=by kernel_rfl)(A:Ie l.toArray f (ip (ip (Array.replicate l.length false) e) b)=true:=by kernel_rfl)(L:e.length+(b.length+f.length)=l.length:=by kernel_rfl):(Code.region id l.toArray true).wp P Q a w:=by
 refine wp_region_noPanic (wp_region_held (S:=S) K ?_);have g:=q;simp only[Dv,Xxx,decide_eq_true_eq] at g;have key:=yw (Q:=NoPanic Q) (fuel:=b.length+f.length) (w:=w.drew) hs m (λc a H w h=>(h:False).elim) e (dv l e) _ a x (Az s) z h (λa1 F => ?_)
 .rw[L] at key
  simpa using key
 obtain⟨D,mono,step,done⟩:=F;have p:(b.filter (λr => !(ip (Array.replicate l.length false) e).getD r true))=b:=by
  rw[List.filter_eq_self];intro r B;have:=List.all_eq_true.1 g.1.1.1.2 r B;simp only[Xxx] at this;exact this.2
 have:=Y5 (P:=P) (Q:=NoPanic Q) (S:=S) (a1:=a1) (fuel:=f.length) q mono (λi hi V w m hd=>step i hi V w _ m hd (λv o u G y=>⟨v,rfl,u,G,y⟩)) (λV o n E=>ur hs (λc a H w h=>(h:False).elim) f _ _ o A n (done V o n E))
  b.length (ip (Array.replicate l.length false) e) (λi=>match bu l.toArray i with|some d=>a1.tmps.getD d undef|none=>undef) w.drew (by rw[p]) g.1.1.2 (λ_ _=>rfl) m (λj J t=>by
   have:=List.all_eq_true.1 g.1.1.1.2 j J;simp only[Xxx,t] at this;simp at this)
 rw[uw] at this;exact this
theorem Xc{P:Program}{c:Array Oper}{Q:Exit->Act->World->Prop}{S:World->Prop}{b:List Nat}{L:Array Bool}{a1:Act}{D:Nat->Value->List Nat->World->Prop}{fuel:Nat}(hB:Dv c b L=true)
  (mono:∀j∈b,∀v g w z,Below w.heap.size w z->D j v g w->D j v g z) (lt:∀j∈b,∀v g w,D j v g w->∀x∈g,x<w.heap.size)
  (step:∀i∈b,∀(V:Nat->Value) (G:Nat->List Nat) (w:World) (K:Act->World->Prop),S w->(∀d∈i8 c i,d∈b->D d (V d) (G d) w) ->
   (∀v g z,S z->Below w.heap.size w z->(∀x∈g,w.heap.size<=x)->D i v g z->K ((am c b V a1).put (bu c i) v) z)->wpOp P c Q i K (am c b V a1) w)
  (done:∀(V:Nat->Value) (G:Nat->List Nat) (w:World),S w->(∀j∈b,D j (V j) (G j) w)->(∀j∈b,∀k∈b,j≠k->∀x∈G j,x ∉ G k)->wpAnyH P .any c Q S fuel (ip L b) (am c b V a1) w) :
  ∀(m:Nat) (a:Array Bool) (V:Nat->Value) (G:Nat->List Nat) (w:World),(b.filter (λr => !a.getD r true)).length=m->a.size=c.size->(∀j,j ∉ b->a[j]?=L[j]?)->S w->(∀j∈b,a.getD j true=true->D j (V j) (G j) w) ->
   (∀j∈b,∀k∈b,a.getD j true=true->a.getD k true=true->j≠k->∀x∈G j,x ∉ G k)->wpAnyH P .any c Q S (m+fuel) a (am c b V a1) w:=by
 simp only[Dv,Xxx,decide_eq_true_eq] at hB;obtain⟨⟨⟨⟨⟨an,af⟩,ar⟩,bi⟩,ag⟩,bf⟩:=hB;have s:∀r∈b,r<c.size/\L.getD r true=false:=λr hr=>by
  have:=List.all_eq_true.1 ar r hr
  simpa using this
 intro m
 induction m with
 | zero =>
  intro a V G w hm H F hS W hA;have A:∀r∈b,a.getD r true=true:=λr hr=>by
   cases hq:a.getD r true
   .have:r∈b.filter (λr => !a.getD r true):=List.mem_filter.2 ⟨hr,by simp[hq]⟩;rw[List.length_eq_zero_iff.1 hm] at this;simp at this
   rfl
  have hl:a=ip L b:=by
   apply Array.ext_getElem?
   intro j;by_cases f:j<L.size
   .rw[Av b L j f];by_cases T:j∈b
    .rw[if_pos T];have p:=A j T;have l:j<a.size:=by omega
     simp only[Array.getD,l,dif_pos] at p;simp[l];exact p
    rw[if_neg T];exact F j T
   rw[Array.getElem?_eq_none (by omega),Array.getElem?_eq_none (by rw[zk];omega)]
  rw[Nat.zero_add,hl];exact done V G w hS (λj f=>W j f (A j f)) λj f k X=>hA j f k X (A j f) (A k X)
 | succ m ih =>
  intro a V G w hm H F hS W hA;have ai:∃r∈b,a.getD r true=false:=by
   have az:b.filter (λr => !a.getD r true)≠[]:=λe=>by rw[e] at hm;simp at hm
   obtain⟨x,hx⟩:=List.exists_mem_of_ne_nil _ az;have:=List.mem_filter.1 hx;exact⟨x,this.1,by simpa using this.2⟩
  have ay:∀d,L.getD d false=true->a.getD d false=true:=λd hd=>by
   by_cases B:d∈b
   .have p:=(s d B).2;have l:d<L.size:=by have:=(s d B).1;omega
    simp only[Array.getD,l,dif_pos] at p hd;rw[p] at hd;cases hd
   have p:=F d B;by_cases l:d<L.size
   .have Y:d<a.size:=by omega
    simp only[Array.getD,l,Y,dif_pos] at hd ⊢;simp only[Array.getElem?_eq_getElem l,Array.getElem?_eq_getElem Y,Qkx] at p;rw[Array.getInternal_eq_getElem] at hd ⊢;rw[p];exact hd
   simp[Array.getD,l] at hd
  obtain⟨r0,bh,aw⟩:=xv H [] b af ay (λd hd=>by simp at hd) (λr hr=>(s r hr).1) ai;rw[Nat.add_right_comm];refine⟨λh0=>absurd (h0▸aw) (by simp),λi hi => ?_⟩;obtain⟨M,o,ho,au⟩:=mem_ready.1 hi;have U:∀d∈i8 c i,a.getD d false=true:=λd hd=>by
   unfold i8 at hd;rw[ho] at hd;obtain⟨e,he,rfl⟩:=List.mem_map.1 hd;have:=List.mem_filter.1 he;exact au e (by simpa using this.1) this.2
  have ah:∀d,a.getD d false=true->a.getD d true=true:=λd hd=>by
   by_cases l:d<a.size
   .simpa[Array.getD,l] using hd
   simp[Array.getD,l]
  have E:i∈b:=by
   cases hc:b.contains i;rotate_left
   .exact Qjz hc
   exfalso;have a8:i<c.size:=(Qkq ho).1;have ba:i ∉ b:=λh=>by
    have:=List.contains_iff_mem.2 h;rw[this] at hc;cases hc
   have p:=List.all_eq_true.1 an i (List.mem_range.2 a8);have ax:L.getD i true=false:=by
    have l:=F i ba;have Y:i<L.size:=by omega
    have h4:i<a.size:=by omega
    simp only[Array.getElem?_eq_getElem Y,Array.getElem?_eq_getElem h4,Qkx] at l;simp only[Array.getD,Y,h4,dif_pos] at M ⊢;rw[Array.getInternal_eq_getElem] at M ⊢;rw[<-l];exact M
   rw[ax,hc] at p;simp only[Bool.false_or] at p;obtain⟨q,hq,a7⟩:=ai;have h5:=List.all_eq_true.1 p q hq;have h6:=ah q (U q (Qjz h5));rw[a7] at h6;cases h6
  refine step i E V G w _ hS (λd hd B=>W d B (ah d (U d hd))) (λv g z aj ap ak a5 => ?_);refine⟨aj,?_⟩;rw[xp ag E];have a6:i<a.size:=by rw[H];exact(s i E).1
  have t:∀j,(a.setIfInBounds i true).getD j true=if j=i then true else a.getD j true:=λj=>by
   by_cases f:j=i
   .subst f;simp[Array.getD,a6]
   rw[if_neg f,getD_set_ne true (λe=>f e.symm)]
  refine ih (a.setIfInBounds i true) (upd V i v) (λj=>if j=i then g else G j) z ?_ (by simpa using H) (λj f => ?_) aj (λj f u => ?_) (λj f k X u J al x hx => ?_)
  .have ad:b.Nodup:=by
    exact(List.pairwise_map.1 ag).imp (λh e=>h (by rw[e]))
   have e1:(b.filter (λr => !a.getD r true))=b.filter (λr => !a.getD r true):=rfl;have ae:(b.filter (λr => !(a.setIfInBounds i true).getD r true))=(b.filter (λr => !a.getD r true)).erase i:=by
    have e2:b.filter (λr => !(a.setIfInBounds i true).getD r true)=(b.filter (λr => !a.getD r true)).filter (λr=>r !=i):=by
     rw[List.filter_filter];refine List.filter_congr λx hx => ?_;rw[t x];by_cases a9:x=i<;>simp[a9]
    rw[e2,<-List.Nodup.erase_eq_filter (ad.filter _)]
   rw[ae,List.length_erase_of_mem (List.mem_filter.2 ⟨E,by simp[M]⟩),hm]
   rfl
  .rw[Array.getElem?_setIfInBounds,if_neg (λe:i=j=>f (by rw[<-e];exact E))];exact F j f
  .unfold upd;by_cases n:j=i
   .subst n;rw[if_pos rfl,if_pos rfl];exact a5
   rw[if_neg n,if_neg n];rw[t j,if_neg n] at u;exact mono j f _ _ _ _ ap (W j f u)
  by_cases n:j=i
  .have y:¬k=i:=λe=>al (n.trans e.symm);rw[if_pos n] at hx;rw[if_neg y];rw[t k,if_neg y] at J;intro ab;have p:=ak x hx;have l:=lt k X _ _ _ (W k X J) x ab;omega
  rw[if_neg n] at hx;rw[t j,if_neg n] at u;by_cases y:k=i
  .rw[if_pos y];intro ab;have p:=ak x ab;have l:=lt j f _ _ _ (W j f u) x hx;omega
  rw[if_neg y];rw[t k,if_neg y] at J;exact hA j f k X u J al x hx
def ab2(P:Program)(ops:Array Oper)(Q:Exit->Act->World->Prop)(S:World->Prop)(rem:List Nat)(ord:List (Bool × Nat))(a1:Act):Prop :=
 ∃D:Nat->Value->List Nat->World->Prop,(∀j∈rem,∀v g w w',Below w.heap.size w w'->D j v g w->D j v g w')/\(∀j∈rem,∀v g w,D j v g w->∀x∈g,x<w.heap.size) /\
  (∀i∈rem,∀(V:Nat->Value) (G:Nat->List Nat) (w:World) (K:Act->World->Prop),S w->(∀d∈i8 ops i,d∈rem->D d (V d) (G d) w) ->
   (∀v g w',S w'->Below w.heap.size w w'->(∀x∈g,w.heap.size<=x)->D i v g w'->K ((am ops rem V a1).put (bu ops i) v) w')->wpOp P ops (NoPanic Q) i K (am ops rem V a1) w) /\
  (∀(V:Nat->Value) (G:Nat->List Nat) (w:World),S w->(∀j∈rem,D j (V j) (G j) w)->(∀j∈rem,∀k∈rem,j≠k->∀x∈G j,x ∉ G k)->yi P ops (NoPanic Q) S ord (am ops rem V a1) w)
theorem M0{P:Program}{l:List Oper}{Q:Exit->Act->World->Prop}{id:Nat}{a:Act}{w:World}(S:World->Prop)(d b:List Nat)(e:List (Bool × Nat))
  (J:P.follows .mixedOrders=true) (hs:Region.noSelect l.toArray=true) (x:sd l.toArray d (Array.replicate l.length false)=true) (t:d.all (λk=>decide (k<l.length))=true) (y:((dv l d).all yh)=true)
  (q:Dv l.toArray b (ip (Array.replicate l.length false) d)=true) (z:Ie l.toArray e (ip (ip (Array.replicate l.length false) d) b)=true) (K:d.length+(b.length+e.length)=l.length)
  (v:S w.drew) (h:wpQuiet P l.toArray S (ab2 P l.toArray Q S b e) (dv l d) a):(Code.region id l.toArray true).wp P Q a w:=by
 refine wp_region_noPanic (wp_region_held (S:=S) J ?_);have g:=q;simp only[Dv,Xxx,decide_eq_true_eq] at g;have key:=yw (Q:=NoPanic Q) (fuel:=b.length+e.length) (w:=w.drew) hs v (λc a H w h=>(h:False).elim) d (dv l d) _ a x (Az t) y h (λa1 E => ?_)
 .rw[K] at key
  simpa using key
 obtain⟨D,mono,lt,step,done⟩:=E;have p:(b.filter (λr => !(ip (Array.replicate l.length false) d).getD r true))=b:=by
  rw[List.filter_eq_self];intro r A;have:=List.all_eq_true.1 g.1.1.1.2 r A;simp only[Xxx] at this;exact this.2
 have m:∀j∈b,(ip (Array.replicate l.length false) d).getD j true=true->False:=λj i f=>by
  have:=List.all_eq_true.1 g.1.1.1.2 j i;simp only[Xxx,f] at this;simp at this
 obtain⟨o,u⟩:∃o,am l.toArray b o a1=a1:=⟨_,uw a1 b⟩;have:=Xc (P:=P) (Q:=NoPanic Q) (S:=S) (a1:=a1) (fuel:=e.length) q mono lt step (λV G s n B F=>ur hs (λc a H w h=>(h:False).elim) e _ _ s z n (done V G s n B F))
  b.length (ip (Array.replicate l.length false) d) o (λ_=>[]) w.drew (by rw[p]) g.1.1.2 (λ_ _=>rfl) v (λj i f=>(m j i f).elim) (λj i k L f _ _=>(m j i f).elim)
 rw[u] at this;exact this
theorem acc(f:Nat)(caps:Array Value)(bad:Nat->Bool)(a:Option Addr)(n c:Nat)(w:World)(E:n<=c)(hc:c<=maxLen)(z:Nat->Od)(v:A9 w a n z)
  (G:∀args w,(callFunc f args).run prog w = .ok (.enter f args) w)
  (D:Hid (∀i d,i<n->Below w.heap.size w d->Calls prog f (#[(z i).val]++caps) d λe q=>e = .returned (.bool (bad i))/\Below d.heap.size d q)) :
  Calls prog 128 #[.slice a n c,.func (.func f) #[] caps] w λe q=>∃r:Int,e = .returned (.int .i64 r)/\decide (0<=r)=aw n bad/\Below w.heap.size w q:=by
 unfold maxLen at hc;go_enter func128,ntmps128;go_wp2_with fail
 go_loopw [8] (λi d=>∃k:Nat,k<=n/\i = .int .i64 k/\(∀j,j<k->bad j=false)/\Below w.heap.size w d) (λi _=>n-(intOf i).toNat)
 case atStart=>exact⟨0,Qxz _,rfl,λj x=>absurd x (Qzq _),Below.refl _ _⟩
 obtain⟨k,F,rfl,m,g⟩:=hrel;have A:=hid m;clear m;by_cases h:k<n;rotate_left
 .go_wp2_with fail;go_ret;have u:k=n:=by omega
  subst u;exact⟨_,rfl,by rw[ct A.out];decide,g⟩
 obtain⟨b,o,rfl,_,t,s,_⟩:=(v.below g) k h;clear v;go_wp2_with fail;refine(D.out k wr h g).mono ?_;rintro e d ⟨rfl,y⟩;have p:=g.trans (y.mono g.size);cases l:bad k
 .go_wp2_with fail;go_roundw
  case measure=>simp[intOf];omega
  refine⟨k+1,by omega,by go_num,?_,p⟩;intro j x;by_cases B:j=k
  .rw[B,l]
  exact A.out j (by omega)
 go_wp2_with fail;go_ret;exact⟨_,rfl,by rw[dt h l];simp,p⟩
theorem Zw(f:Nat)(caps:Array Value)(bad:Nat->Bool)(a:Option Addr)(n c:Nat)(w:World)(k:n<=c)(hc:c<=maxLen)(z:Nat->Od)(j:A9 w a n z)
  (p:∀args w,(callFunc f args).run prog w = .ok (.enter f args) w)
  (l:Hid (∀i b,i<n->Below w.heap.size w b->Calls prog f (#[(z i).val]++caps) b λe d=>e = .returned (.bool (bad i))/\Below b.heap.size b d)) :
  Calls prog 69 #[.slice a n c,.func (.func f) #[] caps] w λe d=>e = .returned (.bool (aw n bad))/\Below w.heap.size w d:=by
 have g:=hc;unfold maxLen at hc;go_enter func69,ntmps69;go_wp2_with fail;refine(acc f caps bad a n c w k g z j p l).mono ?_;rintro e b ⟨r,rfl,h,m⟩;have o:=hid h;clear h;go_wp2_with fail;go_ret;exact⟨by rw[<-o.out];rfl,m⟩
theorem aca(f:Nat)(caps:Array Value)(bad:Nat->Bool)(a:Option Addr)(n c:Nat)(w:World)(G:n<=c)(hc:c<=maxLen)(z:Nat->Hd)(x:jb w a n z)
  (J:∀args w,(callFunc f args).run prog w = .ok (.enter f args) w)
  (F:Hid (∀i d,i<n->Below w.heap.size w d->Calls prog f (#[(z i).val]++caps) d λe q=>e = .returned (.bool (bad i))/\Below d.heap.size d q)) :
  Calls prog 129 #[.slice a n c,.func (.func f) #[] caps] w λe q=>∃r:Int,e = .returned (.int .i64 r)/\decide (0<=r)=aw n bad/\Below w.heap.size w q:=by
 unfold maxLen at hc;go_enter func129,ntmps129;go_wp2_with fail
 go_loopw [8] (λi d=>∃k:Nat,k<=n/\i = .int .i64 k/\(∀j,j<k->bad j=false)/\Below w.heap.size w d) (λi _=>n-(intOf i).toNat)
 case atStart=>exact⟨0,Qxz _,rfl,λj A=>absurd A (Qzq _),Below.refl _ _⟩
 obtain⟨k,H,rfl,m,g⟩:=hrel;have D:=hid m;clear m;by_cases h:k<n;rotate_left
 .go_wp2_with fail;go_ret;have v:k=n:=by omega
  subst v;exact⟨_,rfl,by rw[ct D.out];decide,g⟩
 obtain⟨b,o,rfl,_,u,t,s,y⟩:=(x.below g) k h;clear x;go_wp2_with fail;refine(F.out k wr h g).mono ?_;rintro e d ⟨rfl,B⟩;have p:=g.trans (B.mono g.size);cases l:bad k
 .go_wp2_with fail;go_roundw
  case measure=>simp[intOf];omega
  refine⟨k+1,by omega,by go_num,?_,p⟩;intro j A;by_cases E:j=k
  .rw[E,l]
  exact D.out j (by omega)
 go_wp2_with fail;go_ret;exact⟨_,rfl,by rw[dt h l];simp,p⟩
theorem Lo(f:Nat)(caps:Array Value)(bad:Nat->Bool)(a:Option Addr)(n c:Nat)(w:World)(k:n<=c)(hc:c<=maxLen)(z:Nat->Hd)(j:jb w a n z)
  (p:∀args w,(callFunc f args).run prog w = .ok (.enter f args) w)
  (l:Hid (∀i b,i<n->Below w.heap.size w b->Calls prog f (#[(z i).val]++caps) b λe d=>e = .returned (.bool (bad i))/\Below b.heap.size b d)) :
  Calls prog 73 #[.slice a n c,.func (.func f) #[] caps] w λe d=>e = .returned (.bool (aw n bad))/\Below w.heap.size w d:=by
 have g:=hc;unfold maxLen at hc;go_enter func73,ntmps73;go_wp2_with fail;refine(aca f caps bad a n c w k g z j p l).mono ?_;rintro e b ⟨r,rfl,h,m⟩;have o:=hid h;clear h;go_wp2_with fail;go_ret;exact⟨by rw[<-o.out];rfl,m⟩
theorem ab8(f:Nat)(caps:Array Value)(bad:Nat->Bool)(a:Option Addr)(n c:Nat)(w:World)(G:n<=c)(hc:c<=maxLen)(z:Nat->Hd)(x:jb w a n z)
  (J:∀args w,(callFunc f args).run prog w = .ok (.enter f args) w)
  (F:Hid (∀i d,i<n->Below w.heap.size w d->Calls prog f (#[(z i).val]++caps) d λe q=>e = .returned (.bool (bad i))/\Below d.heap.size d q)) :
  Calls prog 133 #[.slice a n c,.func (.func f) #[] caps] w λe q=>∃r:Int,e = .returned (.int .i64 r)/\decide (0<=r)=aw n bad/\Below w.heap.size w q:=by
 unfold maxLen at hc;go_enter func133,ntmps133;go_wp2_with fail
 go_loopw [8] (λi d=>∃k:Nat,k<=n/\i = .int .i64 k/\(∀j,j<k->bad j=false)/\Below w.heap.size w d) (λi _=>n-(intOf i).toNat)
 case atStart=>exact⟨0,Qxz _,rfl,λj A=>absurd A (Qzq _),Below.refl _ _⟩
 obtain⟨k,H,rfl,m,g⟩:=hrel;have D:=hid m;clear m;by_cases h:k<n;rotate_left
 .go_wp2_with fail;go_ret;have v:k=n:=by omega
  subst v;exact⟨_,rfl,by rw[ct D.out];decide,g⟩
 obtain⟨b,o,rfl,_,u,t,s,y⟩:=(x.below g) k h;clear x;go_wp2_with fail;refine(F.out k wr h g).mono ?_;rintro e d ⟨rfl,B⟩;have p:=g.trans (B.mono g.size);cases l:bad k
 .go_wp2_with fail;go_roundw
  case measure=>simp[intOf];omega
  refine⟨k+1,by omega,by go_num,?_,p⟩;intro j A;by_cases E:j=k
  .rw[E,l]
  exact D.out j (by omega)
 go_wp2_with fail;go_ret;exact⟨_,rfl,by rw[dt h l];simp,p⟩
theorem ab5(f:Nat)(caps:Array Value)(bad:Nat->Bool)(a:Option Addr)(n c:Nat)(w:World)(k:n<=c)(hc:c<=maxLen)(z:Nat->Hd)(j:jb w a n z)
  (p:∀args w,(callFunc f args).run prog w = .ok (.enter f args) w)
  (l:Hid (∀i b,i<n->Below w.heap.size w b->Calls prog f (#[(z i).val]++caps) b λe d=>e = .returned (.bool (bad i))/\Below b.heap.size b d)) :
  Calls prog 76 #[.slice a n c,.func (.func f) #[] caps] w λe d=>e = .returned (.bool (aw n bad))/\Below w.heap.size w d:=by
 have g:=hc;unfold maxLen at hc;go_enter func76,ntmps76;go_wp2_with fail;refine(ab8 f caps bad a n c w k g z j p l).mono ?_;rintro e b ⟨r,rfl,h,m⟩;have o:=hid h;clear h;go_wp2_with fail;go_ret;exact⟨by rw[<-o.out];rfl,m⟩
theorem acb(f:Nat)(caps:Array Value)(bad:Nat->Bool)(a:Option Addr)(n c:Nat)(w:World)(G:n<=c)(hc:c<=maxLen)(z:Nat->Hd)(x:jb w a n z)
  (J:∀args w,(callFunc f args).run prog w = .ok (.enter f args) w)
  (F:Hid (∀i d,i<n->Below w.heap.size w d->Calls prog f (#[(z i).val]++caps) d λe q=>e = .returned (.bool (bad i))/\Below d.heap.size d q)) :
  Calls prog 134 #[.slice a n c,.func (.func f) #[] caps] w λe q=>∃r:Int,e = .returned (.int .i64 r)/\decide (0<=r)=aw n bad/\Below w.heap.size w q:=by
 unfold maxLen at hc;go_enter func134,ntmps134;go_wp2_with fail
 go_loopw [8] (λi d=>∃k:Nat,k<=n/\i = .int .i64 k/\(∀j,j<k->bad j=false)/\Below w.heap.size w d) (λi _=>n-(intOf i).toNat)
 case atStart=>exact⟨0,Qxz _,rfl,λj A=>absurd A (Qzq _),Below.refl _ _⟩
 obtain⟨k,H,rfl,m,g⟩:=hrel;have D:=hid m;clear m;by_cases h:k<n;rotate_left
 .go_wp2_with fail;go_ret;have v:k=n:=by omega
  subst v;exact⟨_,rfl,by rw[ct D.out];decide,g⟩
 obtain⟨b,o,rfl,_,u,t,s,y⟩:=(x.below g) k h;clear x;go_wp2_with fail;refine(F.out k wr h g).mono ?_;rintro e d ⟨rfl,B⟩;have p:=g.trans (B.mono g.size);cases l:bad k
 .go_wp2_with fail;go_roundw
  case measure=>simp[intOf];omega
  refine⟨k+1,by omega,by go_num,?_,p⟩;intro j A;by_cases E:j=k
  .rw[E,l]
  exact D.out j (by omega)
 go_wp2_with fail;go_ret;exact⟨_,rfl,by rw[dt h l];simp,p⟩
theorem ab6(f:Nat)(caps:Array Value)(bad:Nat->Bool)(a:Option Addr)(n c:Nat)(w:World)(k:n<=c)(hc:c<=maxLen)(z:Nat->Hd)(j:jb w a n z)
  (p:∀args w,(callFunc f args).run prog w = .ok (.enter f args) w)
  (l:Hid (∀i b,i<n->Below w.heap.size w b->Calls prog f (#[(z i).val]++caps) b λe d=>e = .returned (.bool (bad i))/\Below b.heap.size b d)) :
  Calls prog 77 #[.slice a n c,.func (.func f) #[] caps] w λe d=>e = .returned (.bool (aw n bad))/\Below w.heap.size w d:=by
 have g:=hc;unfold maxLen at hc;go_enter func77,ntmps77;go_wp2_with fail;refine(acb f caps bad a n c w k g z j p l).mono ?_;rintro e b ⟨r,rfl,h,m⟩;have o:=hid h;clear h;go_wp2_with fail;go_ret;exact⟨by rw[<-o.out];rfl,m⟩
end Go.Proofs.YtbcacebifpagpagGreat
