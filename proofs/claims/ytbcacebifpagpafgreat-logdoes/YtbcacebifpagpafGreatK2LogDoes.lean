/- Texts that were built one behind the other, joined; what LogDoes does not reach is left out. -/
import Derived.Test.YtbcacebifpagpafGreatK1LogDoes
import Derived.Lib.QuietBelow
import Derived.Maps.AppendAt
import Derived.ArgAppend
import Derived.Deep.Upon
import Derived.BigQuiet
import Derived.Deep.QuietTactic
import Derived.RegionTactic
import Derived.ChangeAlike
import Derived.BigRegion
set_option maxHeartbeats 4000000
set_option maxRecDepth 100000
namespace Go.Proofs.YtbcacebifpagpafGreat
variable{b n g A l o i m q j R M N:Nat}{w a c d:World}{s x y:St}{r W J K:Int}{e t:TypeId}{p:Pl}{z D:Nat->Hd}{Q:Exit->Act->World->Prop}{f f':Nat->Value}{v c1 c3 c2:Value}{H O:Hs}{U:List Value}{P:Program}{V X:Int->Int->Int}{Y:Array Oper}{Z E:Hd->Bool}{h:Hd}{S:World->Prop}{a1:Act}{z' zs:Nat->Int}{L:Array Bool}
open _root_.Go.Proofs.Tryz
open Go.RowKit Go.Shelf
set_option linter.unusedVariables false
theorem Qo(x:Od)(w:World):
  Calls prog 123 #[x.val] w λe a=>e = .returned (.bool (qd x))/\Below w.heap.size w a:=by
 unfold qd Od.val;go_enter func123,ntmps123;go_wp2_with(go_at_call 48;refine ag (cn _ _ _ _) ?_)
 all_goals go_ret
 all_goals exact⟨rfl,brf.alloc nlr _⟩
theorem Nu(B:Nat)(p:Pl)(x:Hd)(w:World)(les:p.ns<=p.cs)(caps:p.cs<=maxLen)(g:B<w.heap.size)(c1:w.cell? ⟨B,1,none⟩=some (.slice p.sa p.ns p.cs)):
  Calls prog 125 #[x.val,.pointer (some ⟨B,0,none⟩)] w λe c=>e = .returned (.bool (jx p x))/\Below w.heap.size w c:=by
 have a:p.ns<=maxLen:=Qzx les caps;unfold maxLen at caps;unfold jx Hd.val;cases h:inB x.o 0 ((p.ns:Int)-1)
 .go_enter func125,ntmps125;go_wp2_with(first|(go_at_call 48;refine ag (cn _ _ _ _) ?_)|(go_at_call 47;refine ag (dm _ _ _ a) ?_))
  all_goals go_ret
  all_goals exact⟨by simp,brf.alloc nlr _⟩
 cases f:inB x.l 1 200
 .go_enter func125,ntmps125;go_wp2_with(first|(go_at_call 48;refine ag (cn _ _ _ _) ?_)|(go_at_call 47;refine ag (dm _ _ _ a) ?_))
  all_goals go_ret
  all_goals exact⟨by simp,brf.alloc nlr _⟩
 cases d:inB x.b 0 x.l
 .go_enter func125,ntmps125;go_wp2_with(first|(go_at_call 48;refine ag (cn _ _ _ _) ?_)|(go_at_call 47;refine ag (dm _ _ _ a) ?_))
  all_goals go_ret
  all_goals exact⟨by simp,brf.alloc nlr _⟩
 go_enter func125,ntmps125;go_wp2_with(first|(go_at_call 48;refine ag (cn _ _ _ _) ?_)|(go_at_call 47;refine ag (dm _ _ _ a) ?_))
 all_goals go_ret
 all_goals exact⟨by simp,brf.alloc nlr _⟩
theorem Pg(B:Nat)(p:Pl)(x:Hd)(w:World)(les:p.ns<=p.cs)(caps:p.cs<=maxLen)(leb:p.nb<=p.cb)(capb:p.cb<=maxLen)(i:B<w.heap.size)(h:w.cell? ⟨B,0,none⟩=some (.slice p.ab p.nb p.cb))(c1:w.cell? ⟨B,1,none⟩=some (.slice p.sa p.ns p.cs)):
  Calls prog 130 #[x.val,.pointer (some ⟨B,0,none⟩)] w λe d=>e = .returned (.bool (l6 p x))/\Below w.heap.size w d:=by
 have c:p.ns<=maxLen:=Qzx les caps;have a:p.nb<=maxLen:=Qzx leb capb;unfold maxLen at caps capb;unfold l6 Hd.val;cases j:inB x.o 0 ((p.ns:Int)-1)
 .go_enter func130,ntmps130;go_wp2_with(first|(go_at_call 48;refine ag (cn _ _ _ _) ?_)|(go_at_call 47;first|refine ag (dm _ _ _ c) ?_|refine ag (dm _ _ _ a) ?_))
  all_goals go_ret
  all_goals exact⟨by simp,brf.alloc nlr _⟩
 cases k:inB x.l 0 ((p.nb:Int)-1)
 .go_enter func130,ntmps130;go_wp2_with(first|(go_at_call 48;refine ag (cn _ _ _ _) ?_)|(go_at_call 47;first|refine ag (dm _ _ _ c) ?_|refine ag (dm _ _ _ a) ?_))
  all_goals go_ret
  all_goals exact⟨by simp,brf.alloc nlr _⟩
 cases g:inB x.b 0 ((p.nb:Int)-1)
 .go_enter func130,ntmps130;go_wp2_with(first|(go_at_call 48;refine ag (cn _ _ _ _) ?_)|(go_at_call 47;first|refine ag (dm _ _ _ c) ?_|refine ag (dm _ _ _ a) ?_))
  all_goals go_ret
  all_goals exact⟨by simp,brf.alloc nlr _⟩
 cases f:(x.l==x.b)
 .go_enter func130,ntmps130;go_wp2_with(first|(go_at_call 48;refine ag (cn _ _ _ _) ?_)|(go_at_call 47;first|refine ag (dm _ _ _ c) ?_|refine ag (dm _ _ _ a) ?_))
  all_goals go_ret
  all_goals exact⟨by simp,brf.alloc nlr _⟩
 go_enter func130,ntmps130;go_wp2_with(first|(go_at_call 48;refine ag (cn _ _ _ _) ?_)|(go_at_call 47;first|refine ag (dm _ _ _ c) ?_|refine ag (dm _ _ _ a) ?_))
 all_goals go_ret
 all_goals exact⟨by simp,brf.alloc nlr _⟩
theorem Pm(B:Nat)(x low:Int)(w:World)(b:w.cell? ⟨B,0,none⟩=some (.int .i64 low)):
  Calls prog 132 #[.int .i64 x,.pointer (some ⟨B,0,none⟩)] w λe a=>e = .returned (.bool (!inB x low 1048576))/\a=w:=by
 go_enter func132,ntmps132;go_wp2_with(go_at_call 48;refine ag (cn _ _ _ _) ?_)
 all_goals go_ret
 all_goals exact⟨rfl,rfl⟩
theorem C3(B:Nat)(p:Pl)(r:Rw)(low:Int)(w:World)(f:r.At w)(les:p.ns<=p.cs)(caps:p.cs<=maxLen)(q:B<w.heap.size)(c1:w.cell? ⟨B,1,none⟩=some (.slice p.sa p.ns p.cs)):
  Calls prog 131 #[.slice r.a r.n r.c,.int .i64 low,.pointer (some ⟨B,0,none⟩)] w λe o=>e = .returned (.bool (lu p r low))/\Below w.heap.size w o:=by
 have b:=f.cap;have j:=f.le;have g:=b;unfold maxLen at g caps;have d:Below w.heap.size w (w.alloc (.cells #[.int .i64 low] 3)):=(Below.refl w.heap.size w).alloc nlr _;have ints:=(f.below d).ints;cases m:((r.n:Int) !=(p.ns:Int))
 .go_enter func131,ntmps131;go_wp2_with fail;refine(Yh 132 #[.pointer (some ⟨w.heap.size,0,none⟩)] (λi => !inB (r.z i) low 1048576) _ _ _ _ j b r.z ints (enters_of func132 (by kernel_rfl) rfl) (λi l _ h=>(Pm w.heap.size _ low l ((h.cell (p:=⟨w.heap.size,0,none⟩) (by simp)).trans (by simp))).mono λ_ _ h=>⟨h.1,h.2▸Below.refl _ _⟩)).mono ?_;rintro e l ⟨rfl,k⟩;go_wp2_with fail;go_ret;exact⟨by simp[lu,m],d.trans (k.mono (by simp))⟩
 go_enter func131,ntmps131;go_wp2_with fail;go_ret;exact⟨by simp[lu,m],d⟩
open Go.Sort
def mf(w:World)(Bp Bs:Nat)(p:Pl)(s:St):Prop :=
 (Bp<w.heap.size/\w.cell? ⟨Bp,0,none⟩=some (.slice p.ab p.nb p.cb)/\w.cell? ⟨Bp,1,none⟩=some (.slice p.sa p.ns p.cs)) /\
 Bs<w.heap.size/\w.cell? ⟨Bs,0,none⟩=some (.slice s.on.a s.on.n s.on.c)/\w.cell? ⟨Bs,1,none⟩=some (.slice s.os.a s.os.n s.os.c)/\w.cell? ⟨Bs,2,none⟩=some (.slice s.hs.a s.hs.n s.hs.c) /\
  w.cell? ⟨Bs,3,none⟩=some (.slice s.ms.a s.ms.n s.ms.c)/\w.cell? ⟨Bs,4,none⟩=some (.slice s.si.a s.si.n s.si.c)/\w.cell? ⟨Bs,5,none⟩=some (.slice s.so.a s.so.n s.so.c)/\w.cell? ⟨Bs,6,none⟩=some (.slice s.sf.a s.sf.n s.sf.c)
theorem mf.below{i:World}{f:Nat}(h:mf w g f p s)(e:Below w.heap.size w i):mf i g f p s:=by
 obtain⟨⟨a,b,c⟩,d,e0,l,j,n,m,k,o⟩:=h;exact⟨⟨Xzx a e.size,(e.cell (p:=⟨g,0,none⟩) a).trans b,(e.cell (p:=⟨g,1,none⟩) a).trans c⟩,Xzx d e.size,(e.cell (p:=⟨f,0,none⟩) d).trans e0,(e.cell (p:=⟨f,1,none⟩) d).trans l,(e.cell (p:=⟨f,2,none⟩) d).trans j,(e.cell (p:=⟨f,3,none⟩) d).trans n,(e.cell (p:=⟨f,4,none⟩) d).trans m,(e.cell (p:=⟨f,5,none⟩) d).trans k,(e.cell (p:=⟨f,6,none⟩) d).trans o⟩
theorem ox(w:World)(p:Pl)(s:St)(t u:TypeId):mf ((w.alloc (.cells #[.slice p.ab p.nb p.cb,.slice p.sa p.ns p.cs] t)).alloc (.cells s.cells u)) w.heap.size (w.heap.size+1) p s:=by
 have a:=(Blk.new w #[.slice p.ab p.nb p.cb,.slice p.sa p.ns p.cs] t).alloc (.cells s.cells u);have hs:=Blk.new (w.alloc (.cells #[.slice p.ab p.nb p.cb,.slice p.sa p.ns p.cs] t)) s.cells u;rw[World.size_alloc] at hs;exact⟨⟨a.lt,a.cell (j:=0) (by simp),a.cell (j:=1) (by simp)⟩,hs.lt,hs.cell (j:=0) (by simp[St.cells]),hs.cell (j:=1) (by simp[St.cells]),hs.cell (j:=2) (by simp[St.cells]),hs.cell (j:=3) (by simp[St.cells]),hs.cell (j:=4) (by simp[St.cells]),hs.cell (j:=5) (by simp[St.cells]),hs.cell (j:=6) (by simp[St.cells])⟩
theorem j8(w:World)(o a:Obj):Below w.heap.size w ((w.alloc o).alloc a):=((Below.refl w.heap.size w).alloc nlr o).alloc (by simp) a
theorem Nj(B f:Nat)(p:Pl)(x:Od)(w:World)(hx:x.ls.At w)(les:p.ns<=p.cs)(caps:p.cs<=maxLen)(g:f<w.heap.size)(c1:w.cell? ⟨f,1,none⟩=some (.slice p.sa p.ns p.cs))(u:B<w.heap.size)(c2:w.cell? ⟨B,0,none⟩=some (.func (.func 125) #[] #[.pointer (some ⟨f,0,none⟩)])):
  Calls prog 126 #[x.val,.pointer (some ⟨B,0,none⟩)] w λe t=>e = .returned (.bool (lr p x))/\Below w.heap.size w t:=by
 unfold Od.val;have d:=hx.cap;have s:=hx.le;have l:=d;unfold maxLen at l;have b:Below w.heap.size w (w.alloc (.cells #[.int .i64 x.k,.slice x.ls.a x.ls.n x.ls.c] 66)):=(Below.refl w.heap.size w).alloc nlr _;have m:=(hx.below b).hds;cases r:inB x.k 0 2
 .go_enter func126,ntmps126;go_wp2_with(go_at_call 48;refine ag (cn _ _ _ _) ?_);go_ret;exact⟨by simp[lr,r],b⟩
 go_enter func126,ntmps126;go_wp2_with(go_at_call 48;refine ag (cn _ _ _ _) ?_);refine(Mc 125 #[.pointer (some ⟨f,0,none⟩)] (λj=>jx p (x.ls.z j)) _ _ _ _ s d x.ls.z m (enters_of func125 (by kernel_rfl) rfl) (λi o _ h=>Nu f p _ o les caps (Xzx g (b.trans (h.mono b.size)).size) (((b.trans (h.mono b.size)).cell (p:=⟨f,1,none⟩) g).trans c1))).mono ?_;rintro e o ⟨rfl,q⟩;go_wp2_with fail;go_ret;exact⟨by simp[lr,r],b.trans (q.mono b.size)⟩
theorem R6(s:St)(w:World)(hs:s.At w):
  Calls prog 72 #[s.val] w λe o=>e = .returned (.bool (gh s))/\Below w.heap.size w o:=by
 unfold St.val;have f:=hs.os.cap;have l:=hs.os.le;have b:Below w.heap.size w (w.alloc (.cells s.cells 31)):=(Below.refl w.heap.size w).alloc nlr _;have g:=(hs.os.below b).ods;unfold St.cells at b g;cases c:decide (4<s.os.n);rotate_left
 .have j:(4:Int)<(s.os.n:Int):=by have:=of_decide_eq_true c;omega
  have a:=hid c;clear c;go_enter func72,ntmps72;go_wp2_with fail;go_ret;exact⟨by simp[gh,a.out],b⟩
 have j:¬(4:Int)<(s.os.n:Int):=by have:=of_decide_eq_false c;omega
 cases d:decide (8<s.ms.n)
 .have k:¬(8:Int)<(s.ms.n:Int):=by have:=of_decide_eq_false d;omega
  have a:=qa2 c d;clear c d;go_enter func72,ntmps72;go_wp2_with fail;refine(Zw 123 #[] (λi=>qd (s.os.z i)) _ _ _ _ l f s.os.z g (enters_of func123 (by kernel_rfl) rfl) (λi m _ _=>by rw[Array.append_empty];exact Qo _ _)).mono ?_;rintro e m ⟨rfl,h⟩;go_wp2_with fail;go_ret;exact⟨by simp[gh,a.out.1,a.out.2],b.trans (h.mono b.size)⟩
 have k:(8:Int)<(s.ms.n:Int):=by have:=of_decide_eq_true d;omega
 have a:=hid d;clear c d;go_enter func72,ntmps72;go_wp2_with fail;go_ret;exact⟨by simp[gh,a.out],b⟩
theorem Pi(p:Pl)(s:St)(w:World)(r:p.At w)(hs:s.At w):
  Calls prog 73 #[p.val,s.val] w λe B=>e = .returned (.bool (jh p s))/\Below w.heap.size w B:=by
 have X:=ox w p s 25 31;have g:=j8 w (.cells #[.slice p.ab p.nb p.cb,.slice p.sa p.ns p.cs] 25) (.cells s.cells 31);unfold St.cells at X g;have d:=hs.os.cap;have v:=hs.os.le;unfold Pl.val St.val;go_enter func73,ntmps73;go_wp2_with fail;obtain⟨W,o,l,x⟩:∃W,(((w.alloc (.cells #[.slice p.ab p.nb p.cb,.slice p.sa p.ns p.cs] 25)).alloc (.cells #[.slice s.on.a s.on.n s.on.c,.slice s.os.a s.os.n s.os.c,.slice s.hs.a s.hs.n s.hs.c,.slice s.ms.a s.ms.n s.ms.c,.slice s.si.a s.si.n s.si.c,.slice s.so.a s.so.n s.so.c,.slice s.sf.a s.sf.n s.sf.c] 31)).alloc (.cells #[.func (.func 125) #[] #[.pointer (some ⟨w.heap.size,0,none⟩)]] 95))=W/\Below (w.heap.size+2) ((w.alloc (.cells #[.slice p.ab p.nb p.cb,.slice p.sa p.ns p.cs] 25)).alloc (.cells #[.slice s.on.a s.on.n s.on.c,.slice s.os.a s.os.n s.os.c,.slice s.hs.a s.hs.n s.hs.c,.slice s.ms.a s.ms.n s.ms.c,.slice s.si.a s.si.n s.si.c,.slice s.so.a s.so.n s.so.c,.slice s.sf.a s.sf.n s.sf.c] 31)) W/\Blk W (w.heap.size+1+1) 95 1 (λj=>(#[.func (.func 125) #[] #[.pointer (some ⟨w.heap.size,0,none⟩)]]:Array Value).getD j default):=
  ⟨_,rfl,brf.alloc (by simp) _,Blk.mk' (by simp) rfl⟩
 rw[o];have A:=X.below (by simpa using l);have b:Below w.heap.size w W:=g.trans (l.mono (by omega));clear X o;have f:=(hs.os.below b).ods;refine(Zw 126 #[.pointer (some ⟨w.heap.size+1+1,0,none⟩)] (λi=>lr p (s.os.z i)) _ _ _ _ v d s.os.z f (enters_of func126 (by kernel_rfl) rfl) (λi q hi h => ?_)).mono ?_
 .obtain⟨_,_,_,_,_,_,y⟩:=(Bd.below f h) i hi;have m:=A.below h;have u:=x.below h;exact Nj (w.heap.size+1+1) w.heap.size p _ q y r.les r.caps m.1.1 m.1.2.2 u.lt (u.k 0)
 rintro e q ⟨rfl,t⟩;go_wp2_with fail;go_ret;exact⟨rfl,b.trans (t.mono b.size)⟩
theorem zd(w:World)(p:Pl)(s:St):∃W,((w.alloc (.cells #[.slice p.ab p.nb p.cb,.slice p.sa p.ns p.cs] 25)).alloc (.cells #[.slice s.on.a s.on.n s.on.c,.slice s.os.a s.os.n s.os.c,.slice s.hs.a s.hs.n s.hs.c,.slice s.ms.a s.ms.n s.ms.c,.slice s.si.a s.si.n s.si.c,.slice s.so.a s.so.n s.so.c,.slice s.sf.a s.sf.n s.sf.c] 31)).alloc (.cells #[.slice .none 0 0,.slice .none 0 0,.slice .none 0 0,.slice .none 0 0,.slice .none 0 0,.slice .none 0 0,.slice .none 0 0] 31)=W/\Below w.heap.size w W/\mf W w.heap.size (w.heap.size+1) p s/\Blk W (w.heap.size+2) 31 7 (λ_ => .slice .none 0 0):=
 ⟨_,rfl,(j8 _ _ _).alloc (by simp;omega) _,(ox w p s _ _).below ((Below.refl _ _).alloc (Nat.le_refl _) _),(Blk.mk' (cur:=#[.slice .none 0 0,.slice .none 0 0,.slice .none 0 0,.slice .none 0 0,.slice .none 0 0,.slice .none 0 0,.slice .none 0 0]) (by simp) rfl).congr (λj b=>by match j,b with|0,_=>rfl|1,_=>rfl|2,_=>rfl|3,_=>rfl|4,_=>rfl|5,_=>rfl|6,_=>rfl)⟩
theorem wv(f:p.At w)(hs:s.At w)(b:Below w.heap.size w c)(d:mf c w.heap.size (w.heap.size+1) p s)(e:Blk c (w.heap.size+2) 31 7 (λ_ => .slice .none 0 0)):Hid (∀a,Below c.heap.size c a->mf a w.heap.size (w.heap.size+1) p s/\p.At a/\s.At a/\Below w.heap.size w a/\Blk a (w.heap.size+2) 31 7 (λ_ => .slice .none 0 0)):=λa h=>⟨d.below h,(f.below b).below h,(hs.below b).below h,b.trans (h.mono b.size),e.below h⟩
theorem G9(w:World)(p:Pl)(s:St):∃W,(w.alloc (.cells #[.slice p.ab p.nb p.cb,.slice p.sa p.ns p.cs] 25)).alloc (.cells #[.slice s.on.a s.on.n s.on.c,.slice s.os.a s.os.n s.os.c,.slice s.hs.a s.hs.n s.hs.c,.slice s.ms.a s.ms.n s.ms.c,.slice s.si.a s.si.n s.si.c,.slice s.so.a s.so.n s.so.c,.slice s.sf.a s.sf.n s.sf.c] 31)=W/\Below w.heap.size w W/\mf W w.heap.size (w.heap.size+1) p s:=⟨_,rfl,j8 _ _ _,ox w p s _ _⟩
theorem F8(e:p.At w)(hs:s.At w)(a:Below w.heap.size w c)(d:mf c w.heap.size (w.heap.size+1) p s):Hid (∀b,Below c.heap.size c b->mf b w.heap.size (w.heap.size+1) p s/\p.At b/\s.At b/\Below w.heap.size w b):=λb h=>⟨d.below h,(e.below a).below h,(hs.below a).below h,a.trans (h.mono a.size)⟩
theorem Ql(p:Pl)(s:St)(w:World)(c:p.At w)(hs:s.At w):
  Calls prog 75 #[p.val,s.val] w λe l=>e = .returned (.bool (j9 p s))/\Below w.heap.size w l:=by
 have X:=ox w p s 25 31;have a:=j8 w (.cells #[.slice p.ab p.nb p.cb,.slice p.sa p.ns p.cs] 25) (.cells s.cells 31);have d:=(hs.ms.below a).hds;unfold St.cells at X a d;have b:=hs.ms.cap;have g:=hs.ms.le;unfold Pl.val St.val;go_enter func75,ntmps75;go_wp2_with fail;refine(acc 130 #[.pointer (some ⟨w.heap.size,0,none⟩)] (λi=>l6 p (s.ms.z i)) _ _ _ _ g b s.ms.z d (enters_of func130 (by kernel_rfl) rfl) (λi j hi h => ?_)).mono ?_
 .have f:=X.below h;exact Pg w.heap.size p _ j c.les c.caps c.leb c.capb f.1.1 f.1.2.1 f.1.2.2
 rintro e j ⟨rfl,k⟩;go_wp2_with fail;go_ret;exact⟨rfl,a.trans (k.mono a.size)⟩
theorem Sm(p:Pl)(s:St)(w:World)(f:p.At w)(hs:s.At w):
  Calls prog 76 #[p.val,s.val] w λe t=>e = .returned (.bool (fo p s))/\Below w.heap.size w t:=by
 have X:=ox w p s 25 31;have b:=j8 w (.cells #[.slice p.ab p.nb p.cb,.slice p.sa p.ns p.cs] 25) (.cells s.cells 31);have u:=enters_of func131 (by kernel_rfl) rfl;unfold Pl.val St.val;go_enter func76,ntmps76;go_wp2_with fail;obtain⟨W,h⟩:∃W,((w.alloc (.cells #[.slice p.ab p.nb p.cb,.slice p.sa p.ns p.cs] 25)).alloc (.cells s.cells 31))=W:=⟨_,rfl⟩;rw[h] at X b;unfold St.cells at h;rw[h];clear h;refine(C3 w.heap.size p s.si 0 W (hs.si.below b) f.les f.caps X.1.1 X.1.2.2).mono ?_;rintro e n ⟨rfl,a⟩;have g:=X.below a;have c:=b.trans (a.mono b.size);clear X b a;cases k:lu p s.si 0;rotate_left
 .go_wp2_with fail;go_ret;exact⟨by simp[fo,k],c⟩
 have m:=g;obtain⟨-,i,-,-,-,-,-,q,-⟩:=m;go_wp2_with fail;refine(C3 w.heap.size p s.so 0 n (hs.so.below c) f.les f.caps g.1.1 g.1.2.2).mono ?_;rintro e o ⟨rfl,a⟩;have j:=g.below a;have d:=c.trans (a.mono c.size);clear g c a q i;cases l:lu p s.so 0
 .have r:=j;obtain⟨-,i,-,-,-,-,-,-,v⟩:=r;go_wp2_with fail;refine(C3 w.heap.size p s.sf (-1048576) o (hs.sf.below d) f.les f.caps j.1.1 j.1.2.2).mono ?_;rintro e x ⟨rfl,a⟩;go_wp2_with fail;go_ret;exact⟨by simp[fo,k,l],d.trans (a.mono d.size)⟩
 go_wp2_with fail;go_ret;exact⟨by simp[fo,l],d⟩
theorem Pq(S Q:Nat)(p:Pl)(s:St)(x:Hd)(w:World)(q:p.At w)(hs:s.os.At w)(X:mf w S Q p s):
  Calls prog 127 #[x.val,.pointer (some ⟨Q,0,none⟩),.pointer (some ⟨S,0,none⟩)] w λe U=>e = .returned (.bool (i7 p s x))/\Below w.heap.size w U:=by
 obtain⟨W,D,a,r⟩:∃W,w.alloc (.cells #[.int .i64 x.o,.int .i64 x.l,.int .i64 x.b,.int .i64 x.n] 103)=W/\Below w.heap.size w W/\Blk W w.heap.size 103 4 (λj=>(#[.int .i64 x.o,.int .i64 x.l,.int .i64 x.b,.int .i64 x.n]:Array Value).getD j default):=⟨_,rfl,(Below.refl w.heap.size w).alloc nlr _,Blk.mk' rfl rfl⟩;have y:Hid (w.alloc (.cells #[.int .i64 x.o,.int .i64 x.l,.int .i64 x.b,.int .i64 x.n] 103)=W):=D;have v:=X.below a;have os:=hs.below a;have H:=os.le;have f:=os.cap;have ac:s.os.n<=maxLen:=Qzx H f;have ab:p.nb<=maxLen:=Qzx q.leb q.capb;have A:=q.capb;have aa:=q.leb;have B:=f;unfold maxLen at B A;have Y:=Qqq (r.k 0);have r1:=Qqq (r.k 1);have r2:=Qqq (r.k 2);have T:=Qqq v.2.2.2.1;have r4:=Qqq v.1.2.1;clear D;unfold Hd.val;cases g:inB x.o 0 ((s.os.n:Int)-1)
 .go_enter func127,ntmps127;go_wp2_with fail;rw[y.out];refine Qxq (by kernel_rfl) (by kernel_rfl) ?_
  repeat(go_big_quiet_step((go_at_call 47;exact Xxz ((dm _ _ _ (by assumption)).mono (λ_ _ h=>⟨h.1,h.2▸Below.refl _ _⟩)))))
  refine Qqz ?_;intro _ d;obtain⟨⟨E,t⟩,c⟩:=d;subst c;go_wp2_with fail;go_ret;exact⟨by simp[i7,g],a.trans ((Qxx _ _ _).mono a.size)⟩
 obtain⟨m,i⟩:=Qzz (aq g).1;have G:m<s.os.n:=by have:=(aq g).2;omega
 obtain⟨b,o,u,hb,-,F,K⟩:=os.ods m G;have V:(s.os.z m).ls.n<=maxLen:=Qzx K.le K.cap;have M:Hid (i7 p s x=(!inB x.l 0 (((s.os.z m).ls.n:Int)-1) || !inB x.b 0 ((p.nb:Int)-1))):=by
  show i7 p s x=_;unfold i7;rw[g,i,Int.toNat_natCast]
  rfl
 rw[i] at Y g;simp only[u] at T;have r5:=Qqq F;have m1:(0:Int)<=(m:Int):=by omega
 have m2:(m:Int)<(s.os.n:Int):=by omega
 have J:=hid i;clear i u F os v X r
 generalize (s.os.z m).ls=L at *
 cases P:inB x.l 0 ((L.n:Int)-1)
 .go_enter func127,ntmps127;go_wp2_with fail;rw[y.out,J.out];refine Qxq (by kernel_rfl) (by kernel_rfl) ?_
  repeat(go_big_quiet_step((go_at_call 47;exact Xxz ((dm _ _ _ (by assumption)).mono (λ_ _ h=>⟨h.1,h.2▸Below.refl _ _⟩)))))
  refine Qqz ?_;intro _ d;obtain⟨⟨E,t⟩,c⟩:=d;subst c;go_wp2_with fail;go_ret;exact⟨by rw[M.out,P];simp,a.trans ((Qxx _ _ _).mono a.size)⟩
 go_enter func127,ntmps127;go_wp2_with fail;rw[y.out,J.out];refine Qxq (by kernel_rfl) (by kernel_rfl) ?_
 repeat(go_big_quiet_step((go_at_call 47;exact Xxz ((dm _ _ _ (by assumption)).mono (λ_ _ h=>⟨h.1,h.2▸Below.refl _ _⟩)))))
 refine Qqz ?_;intro _ d;obtain⟨⟨E,t⟩,c⟩:=d;subst c;go_wp2_with fail;go_ret;exact⟨by rw[M.out,P];simp,a.trans ((Qxx _ _ _).mono a.size)⟩
theorem Qt(p:Pl)(s:St)(w:World)(v:p.At w)(hs:s.At w):
  Calls prog 74 #[p.val,s.val] w λe x=>e = .returned (.bool (gu p s))/\Below w.heap.size w x:=by
 have X:=ox w p s 25 31;have a:=j8 w (.cells #[.slice p.ab p.nb p.cb,.slice p.sa p.ns p.cs] 25) (.cells s.cells 31);have j:=hs.hs.cap;have m:=hs.hs.le;have d:=v.below a;have c:=hs.below a;unfold Pl.val St.val;go_enter func74,ntmps74;go_wp2_with fail;obtain⟨W,g⟩:∃W,((w.alloc (.cells #[.slice p.ab p.nb p.cb,.slice p.sa p.ns p.cs] 25)).alloc (.cells s.cells 31))=W:=⟨_,rfl⟩;rw[g] at X a d c;unfold St.cells at g;rw[g];clear g;refine(tw s.hs W c.hs).mono ?_;rintro e A ⟨rfl,b⟩;have l:=X.below b;have f:=a.trans (b.mono a.size);have t:=d.below b;have k:=c.below b;clear X a b d c;by_cases r:h9 s.hs.n s.hs.z=0
 .have u:=l;obtain⟨-,y,-,-,B,-⟩:=u;go_wp2_with fail;refine(aca 127 #[.pointer (some ⟨w.heap.size+1,0,none⟩),.pointer (some ⟨w.heap.size,0,none⟩)] (λi=>i7 p s (s.hs.z i)) _ _ _ _ m j s.hs.z k.hs.hds (enters_of func127 (by kernel_rfl) rfl) (λi o hi h => ?_)).mono ?_
  .exact Pq w.heap.size (w.heap.size+1) p s _ o (t.below h) (k.os.below h) (l.below h)
  rintro e o ⟨rfl,q⟩;go_wp2_with fail;go_ret;exact⟨by simp[gu,r],f.trans (q.mono f.size)⟩
 go_wp2_with fail;go_ret;exact⟨by simp[gu,r],f⟩
theorem Wf(x:Hd)(w:World):
  Calls prog 133 #[x.val] w λe a=>e = .returned (.bool (js x))/\Below w.heap.size w a:=by
 unfold js Hd.val;go_enter func133,ntmps133;go_wp2_with fail;go_ret;exact⟨rfl,brf.alloc nlr _⟩
theorem G6(k:Int)(x:Hd)(kept:Int)(w:World)(m:0<=x.b/\x.b<=200)(j:0<=x.n/\x.n<=200)(i:0<=kept/\kept<=14400):
  Calls prog 134 #[.int .i64 k,x.val,.int .i64 kept] w λe g=>e = .returned (.bool (cp k x kept))/\Below w.heap.size w g:=by
 unfold Hd.val;by_cases c:k=0
 .have a:Hid (cp k x kept=(!(x.b==0) || !(x.n==0) || !(kept==0))):=by show cp k x kept=_;simp only[cp,if_pos c]
  rw[a.out];subst c;clear a;cases f:(x.b==0)
  .go_enter func134,ntmps134;go_wp2_with fail
   all_goals go_ret
   all_goals exact⟨by first|rfl|simp_all,brf.alloc nlr _⟩
  cases h:(x.n==0)
  .go_enter func134,ntmps134;go_wp2_with fail
   all_goals go_ret
   all_goals exact⟨by first|rfl|simp_all,brf.alloc nlr _⟩
  go_enter func134,ntmps134;go_wp2_with fail
  all_goals go_ret
  all_goals exact⟨by first|rfl|simp_all,brf.alloc nlr _⟩
 by_cases d:k=2
 .have a:Hid (cp k x kept=(!(x.b+x.n==x.l) || !(kept==0))):=by show cp k x kept=_;simp only[cp,if_neg c,if_pos d]
  rw[a.out];subst d;clear a c;cases f:(x.b+x.n==x.l)
  .go_enter func134,ntmps134;go_wp2_with fail
   all_goals go_ret
   all_goals exact⟨by first|rfl|simp_all,brf.alloc nlr _⟩
  go_enter func134,ntmps134;go_wp2_with fail
  all_goals go_ret
  all_goals exact⟨by first|rfl|simp_all,brf.alloc nlr _⟩
 have a:Hid (cp k x kept = !(x.b+x.n+kept==x.l)):=by show cp k x kept=_;simp only[cp,if_neg c,if_neg d]
 rw[a.out];clear a;go_enter func134,ntmps134;go_wp2_with fail
 all_goals go_ret
 all_goals exact⟨rfl,brf.alloc nlr _⟩
theorem Xd{k:Nat}(f:cw p s)(hs:s.os.At w)(x:k<s.hs.n):
  ∃(b c b1 e b2 d N C:Nat),(s.hs.z k).o=(b:Int)/\(s.hs.z k).l=(c:Int)/\b<s.os.n/\c<N/\N<=C/\C<=maxLen/\s.os.a=some ⟨b1,e,none⟩/\b1<w.heap.size/\b2<w.heap.size /\
   w.cell? ⟨b1,e+b*2+1,none⟩=some (.slice (some ⟨b2,d,none⟩) N C)/\w.cell? ⟨b2,d+c*4,none⟩=some (.int .i64 (jo s (s.hs.z k))):=by
 obtain⟨⟨B,a1⟩,⟨l0,g⟩,-⟩:=iu (f.home k x);obtain⟨b,j⟩:=Qzz B;obtain⟨c,u⟩:=Qzz l0;have r:(s.hs.z k).o.toNat=b:=by omega
 have v:(s.hs.z k).l.toNat=c:=by omega
 have A:jo s (s.hs.z k)=((s.os.z b).ls.z c).o:=by unfold jo;rw[r,v]
 rw[r] at a1 g;rw[v] at g;obtain⟨b1,e,D,t,-,m,h⟩:=hs.ods b a1;obtain⟨b2,d,i,q,y,-⟩:=h.hds c g;rw[i] at m;exact⟨b,c,b1,e,b2,d,_,_,j,u,a1,g,h.le,h.cap,D,t,q,m,by rw[A];exact y⟩
theorem Ma{b g:Int}{k:Nat}(c:(s.hs.z k).b=b)(a:jo s (s.hs.z k)=g):ca s b g (k+1)=ca s b g k+(s.hs.z k).n:=by simp only[ca];rw[if_pos ⟨c,a⟩]
theorem J2{b g:Int}{k:Nat}(h:¬((s.hs.z k).b=b/\jo s (s.hs.z k)=g)):ca s b g (k+1)=ca s b g k:=by simp only[ca];rw[if_neg h,Int.add_zero]
theorem Gc{b g:Int}{k:Nat}(c:(s.ms.z k).l=b)(a:(s.ms.z k).o=g):az s b g (k+1)=az s b g k+(s.ms.z k).n:=by simp only[az];rw[if_pos ⟨c,a⟩]
theorem J3{b g:Int}{k:Nat}(h:¬((s.ms.z k).l=b/\(s.ms.z k).o=g)):az s b g (k+1)=az s b g k:=by simp only[az];rw[if_neg h,Int.add_zero]
theorem Pa(p:Pl)(s:St)(bin good:Nat)(w:World)(hs:s.At w)(f:cw p s)(cf:bin<p.nb)(aw:good<p.ns):
  Calls prog 114 #[s.val,.int .i64 bin,.int .i64 good] w λe w'=>e = .returned (.int .i64 (ar s bin good))/\Below w.heap.size w w':=by
 obtain⟨x,a1,ao,S⟩:∃x,w.alloc (.cells s.cells 31)=x/\Below w.heap.size w x/\Blk x w.heap.size 31 7 (λj=>s.cells.getD j default):=⟨_,rfl,(Below.refl w.heap.size w).alloc nlr _,Blk.mk' rfl rfl⟩;have y:=hs.below ao;have b9:w.heap.size<x.heap.size:=S.lt;have HC:Hid (∀D,Below x.heap.size x D->s.At D/\D.cell? ⟨w.heap.size,0,none⟩=some (.slice s.on.a s.on.n s.on.c)/\D.cell? ⟨w.heap.size,1,none⟩=some (.slice s.os.a s.os.n s.os.c)/\D.cell? ⟨w.heap.size,2,none⟩=some (.slice s.hs.a s.hs.n s.hs.c)/\D.cell? ⟨w.heap.size,3,none⟩=some (.slice s.ms.a s.ms.n s.ms.c)/\w.heap.size<D.heap.size):=
  λD h=>⟨y.below h,(S.below h).k 0,(S.below h).k 1,(S.below h).k 2,(S.below h).k 3,(S.below h).lt⟩
 have P:=f.sh.n;obtain⟨bo,oo,V,ci,y0,L⟩:=hs.on.rows bin (by omega);have ac:=f.sh.len bin (by omega);have bv:=f.sh.num bin (by omega) good aw;obtain⟨br,cl,a3,ck,y1⟩:=L.ints good (by omega);have a5:=L.le;have au:=L.cap;have bf:=y.on.le;have av:=y.on.cap;have bw:=y.hs.le;have ax:=y.hs.cap;have bt:=y.ms.le;have ay:=y.ms.cap;have bn:=y.os.le;have ap:=y.os.cap;unfold maxLen at au av ax ay ap;rw[a3] at y0;have cj:=f.hs72;have m8:=f.ms8;have HB:Hid (∀k,k<=s.hs.n->0<=ca s bin good k/\ca s bin good k<=200*k):=λk Y=>mt λj hj=>f.holdN j (by omega);have MB:Hid (∀k,k<=s.ms.n->0<=az s bin good k/\az s bin good k<=200*k):=λk Y=>jr λj hj=>f.moveN j (by omega);have HW:Hid (w.alloc (.cells #[.slice (some ⟨bo,oo,none⟩) p.nb s.on.c,.slice s.os.a s.os.n s.os.c,.slice s.hs.a s.hs.n s.hs.c,.slice s.ms.a s.ms.n s.ms.c,.slice s.si.a s.si.n s.si.c,.slice s.so.a s.so.n s.so.c,.slice s.sf.a s.sf.n s.sf.c] 31)=x):=by
  show _=x;rw[<-a1,<-V,<-P]
  rfl
 have HN:Hid (s.on.n=p.nb/\(s.on.r bin).n=p.ns/\(s.on.r bin).z good+0=(s.on.r bin).z good):=⟨P,ac,Int.add_zero _⟩;have HO:=hid V;rw[ac] at y0 a5;rw[P] at bf;have q0:(0:Int)<=(bin:Int):=by omega
 have q1:(0:Int)<=(good:Int):=by omega
 simp only[St.val,V,P];clear S a1 L P ac V a3;go_enter func114,ntmps114;go_wp2_with fail;rw[HW.out]
 go_loopw [7,23] (λu i D=>∃k:Nat,k<=s.hs.n/\i = .int .i64 k/\u = .int .i64 ((s.on.r bin).z good-ca s bin good k)/\Below x.heap.size x D) (λ_ i _=>s.hs.n-(intOf i).toNat)
 case atStart=>exact⟨0,Qxz _,rfl,by simp[ca],Below.refl _ _⟩
 obtain⟨k,Y,rfl,rfl,K⟩:=hrel;have m1:=HB.out k Y;obtain⟨H,c0,c1,c2,c3,T⟩:=HC.out wr K;by_cases ah:k<s.hs.n;rotate_left
 .have aa:k=s.hs.n:=by omega
  subst aa
  generalize hHH:ca s bin good s.hs.n=HH at *
  have bk:=hid hHH;clear hHH H;go_wp2_with fail
  go_loopw [7,55] (λu i D=>∃k:Nat,k<=s.ms.n/\i = .int .i64 k/\u = .int .i64 ((s.on.r bin).z good-HH-az s bin good k)/\Below x.heap.size x D) (λ_ i _=>s.ms.n-(intOf i).toNat)
  case atStart=>exact⟨0,Qxz _,rfl,by simp[az],K⟩
  clear K c0 c1 c2 c3 T;obtain⟨k,Y,rfl,rfl,K⟩:=hrel;have m2:=MB.out k Y;by_cases ae:k<s.ms.n;rotate_left
  .have aa:k=s.ms.n:=by omega
   subst aa;go_wp2_with fail;go_ret;exact⟨by rw[<-bk.out];rfl,ao.trans (K.mono ao.size)⟩
  obtain⟨H,c0,c1,c2,c3,T⟩:=HC.out wr K;obtain⟨b,q,a2,hb,z0,z1,z2,z3⟩:=H.ms.hds k ae;have m3:=f.moveN k ae;have B:Hid (((s.ms.z k).l=bin/\(s.ms.z k).o=good->az s bin good (k+1)=az s bin good k+(s.ms.z k).n)/\(¬((s.ms.z k).l=bin/\(s.ms.z k).o=good)->az s bin good (k+1)=az s bin good k)):=⟨λh=>Gc h.1 h.2,J3⟩;have q4:(0:Int)<=(k:Int):=by omega
  have E:=λo=>K.alloc (Qzx K.size nlr) o;have ai:=hid E;rw[a2];clear a2 c0 c1 c2 c3 H E
  generalize az s bin good k=U at *
  generalize (s.ms.z k).l=BB at *
  generalize (s.ms.z k).n=NN at *
  generalize (s.ms.z k).o=GD at *
  cases h1:(BB==(bin:Int))
  .have t:=B.out.2 (by simp at h1;omega);have G:=hid t;clear t B;go_wp2_with fail;go_roundw
   case rel=>exact⟨k+1,by omega,by go_num,by rw[G.out],ai.out _⟩
   case measure=>simp[intOf];omega
  cases h2:(GD==(good:Int))
  .have t:=B.out.2 (by simp at h2;omega);have G:=hid t;clear t B;go_wp2_with fail;go_roundw
   case rel=>exact⟨k+1,by omega,by go_num,by rw[G.out],ai.out _⟩
   case measure=>simp[intOf];omega
  have t:=B.out.1 ⟨by simpa using h1,by simpa using h2⟩;have G:=hid t;clear t B;go_wp2_with fail;go_roundw
  case rel=>exact⟨k+1,by omega,by go_num,by rw[G.out,Int.sub_sub _ U],ai.out _⟩
  case measure=>simp[intOf];omega
 obtain⟨b,q,ag,hb,z0,z1,z2,z3⟩:=H.hs.hds k ah;have m2:=f.holdN k ah;obtain⟨mo,ml,b1,o1,b2,o2,N,C,al,af,g1,g2,g3,g4,Q,g5,g6,g7,g8⟩:=Xd f H.os ah;have HG:=qa4 ag Q al af;obtain⟨m,aj,A,J⟩:∃m,wr.alloc (.cells #[.int .i64 mo,.int .i64 ml,.int .i64 (s.hs.z k).b,.int .i64 (s.hs.z k).n] 103)=m/\Below x.heap.size x m/\Blk m wr.heap.size 103 4 (λj=>(#[.int .i64 mo,.int .i64 ml,.int .i64 (s.hs.z k).b,.int .i64 (s.hs.z k).n]:Array Value).getD j default):=⟨_,rfl,K.alloc K.size _,Blk.mk' rfl rfl⟩;have E:Below wr.heap.size wr m:=by rw[<-aj];exact brf.alloc nlr _
 have r0:=Qqq (J.k 0);have r1:=Qqq (J.k 1);have r2:=Qqq (J.k 2);have W:=Qqq (J.k 3);rw[Q] at c1;rw[al] at z0;rw[af] at z1;have r4:∀d os,(grow (redrawn m d) os).cell? ⟨w.heap.size,1,none⟩=some (.slice (some ⟨b1,o1,none⟩) s.os.n s.os.c):=λd os=>Qqq ((E.cell (p:=⟨w.heap.size,1,none⟩) T).trans c1) d os;have r5:∀d os,(grow (redrawn m d) os).cell? ⟨b1,o1+mo*2+1,none⟩=some (.slice (some ⟨b2,o2,none⟩) N C):=λd os=>Qqq ((E.cell (p:=⟨b1,o1+mo*2+1,none⟩) g5).trans g7) d os;have r6:∀d os,(grow (redrawn m d) os).cell? ⟨b2,o2+ml*4,none⟩=some (.int .i64 (jo s (s.hs.z k))):=λd os=>Qqq ((E.cell (p:=⟨b2,o2+ml*4,none⟩) g6).trans g8) d os;have X:=hid aj;have q2:(0:Int)<=(mo:Int):=by omega
 have q3:(0:Int)<=(ml:Int):=by omega
 have q4:(0:Int)<=(k:Int):=by omega
 have B:Hid (((s.hs.z k).b=bin/\jo s (s.hs.z k)=good->ca s bin good (k+1)=ca s bin good k+(s.hs.z k).n)/\(¬((s.hs.z k).b=bin/\jo s (s.hs.z k)=good)->ca s bin good (k+1)=ca s bin good k)):=⟨λh=>Ma h.1 h.2,J2⟩;rw[ag];unfold maxLen at g4;clear al af Q ag aj c0 c1 c2 c3 H E
 generalize jo s (s.hs.z k)=GD at *
 generalize ca s bin good k=U at *
 generalize (s.hs.z k).b=BB at *
 generalize (s.hs.z k).n=NN at *
 cases h1:(BB==(bin:Int))
 .have t:=B.out.2 (by simp at h1;omega);have G:=hid t;clear t B;go_wp2_with fail;rw[X.out];refine Qxq (by kernel_rfl) (by kernel_rfl) ?_
  repeat(go_big_quiet_step(fail))
  refine Qqz ?_;intro _ M;obtain⟨⟨v,g⟩,F⟩:=M;subst F;have hC:=A.trans ((Qxx m v g).mono A.size);have a0:=W v g;have a4:wr.heap.size<(grow (redrawn m v) g).heap.size:=Xzx J.lt (Qxx m v g).size;clear r0 r1 r2 W r4 r5 r6 J A X
  generalize grow (redrawn m v) g=wz at *
  go_wp2_with fail;go_roundw
  case rel=>exact⟨k+1,by omega,by go_num,by rw[G.out],hC⟩
  case measure=>simp[intOf];omega
 cases h2:(GD==(good:Int));rotate_left
 .have t:=B.out.1 ⟨by simpa using h1,by simpa using h2⟩;have G:=hid t;clear t B;go_wp2_with fail;rw[X.out];refine Qxq (by kernel_rfl) (by kernel_rfl) ?_
  repeat(go_big_quiet_step(fail))
  refine Qqz ?_;intro _ M;obtain⟨⟨v,g⟩,F⟩:=M;subst F;have hC:=A.trans ((Qxx m v g).mono A.size);have a0:=W v g;have a4:wr.heap.size<(grow (redrawn m v) g).heap.size:=Xzx J.lt (Qxx m v g).size;clear r0 r1 r2 W r4 r5 r6 J A X
  generalize grow (redrawn m v) g=wz at *
  go_wp2_with fail;go_roundw
  case rel=>exact⟨k+1,by omega,by go_num,by rw[G.out,Int.sub_sub],hC⟩
  case measure=>simp[intOf];omega
 have t:=B.out.2 (by simp at h2;omega);have G:=hid t;clear t B;go_wp2_with fail;rw[X.out];refine Qxq (by kernel_rfl) (by kernel_rfl) ?_
 repeat(go_big_quiet_step(fail))
 refine Qqz ?_;intro _ M;obtain⟨⟨v,g⟩,F⟩:=M;subst F;have hC:=A.trans ((Qxx m v g).mono A.size);have a0:=W v g;have a4:wr.heap.size<(grow (redrawn m v) g).heap.size:=Xzx J.lt (Qxx m v g).size;clear r0 r1 r2 W r4 r5 r6 J A X
 generalize grow (redrawn m v) g=wz at *
 go_wp2_with fail;go_roundw
 case rel=>exact⟨k+1,by omega,by go_num,by rw[G.out],hC⟩
 case measure=>simp[intOf];omega
theorem Hk(p:Pl)(s:St)(bin good:Nat)(w:World)(hs:s.At w)(f:cw p s):
  Calls prog 90 #[s.val,.int .i64 bin,.int .i64 good] w λe w'=>e = .returned (.int .i64 (ca s bin good s.hs.n+az s bin good s.ms.n))/\Below w.heap.size w w':=by
 obtain⟨v,an,aj,Q⟩:∃v,w.alloc (.cells s.cells 31)=v/\Below w.heap.size w v/\Blk v w.heap.size 31 7 (λj=>s.cells.getD j default):=⟨_,rfl,(Below.refl w.heap.size w).alloc nlr _,Blk.mk' rfl rfl⟩;have D:=hs.below aj;have bp:w.heap.size<v.heap.size:=Q.lt;have HC:Hid (∀E,Below v.heap.size v E->s.At E/\E.cell? ⟨w.heap.size,1,none⟩=some (.slice s.os.a s.os.n s.os.c)/\E.cell? ⟨w.heap.size,2,none⟩=some (.slice s.hs.a s.hs.n s.hs.c)/\E.cell? ⟨w.heap.size,3,none⟩=some (.slice s.ms.a s.ms.n s.ms.c)/\w.heap.size<E.heap.size):=
  λE h=>⟨D.below h,(Q.below h).k 1,(Q.below h).k 2,(Q.below h).k 3,(Q.below h).lt⟩
 have bf:=D.hs.le;have am:=D.hs.cap;have bd:=D.ms.le;have al:=D.ms.cap;have a9:=D.os.le;have ak:=D.os.cap;unfold maxLen at am al ak;have bu:=f.hs72;have m8:=f.ms8;have HB:Hid (∀k,k<=s.hs.n->0<=ca s bin good k/\ca s bin good k<=200*k):=λk T=>mt λj hj=>f.holdN j (by omega);have MB:Hid (∀k,k<=s.ms.n->0<=az s bin good k/\az s bin good k<=200*k):=λk T=>jr λj hj=>f.moveN j (by omega);have HW:Hid (w.alloc (.cells #[.slice s.on.a s.on.n s.on.c,.slice s.os.a s.os.n s.os.c,.slice s.hs.a s.hs.n s.hs.c,.slice s.ms.a s.ms.n s.ms.c,.slice s.si.a s.si.n s.si.c,.slice s.so.a s.so.n s.so.c,.slice s.sf.a s.sf.n s.sf.c] 31)=v):=an;simp only[St.val];clear Q an;go_enter func90,ntmps90;go_wp2_with fail;rw[HW.out]
 go_loopw [7,8] (λu i E=>∃k:Nat,k<=s.hs.n/\i = .int .i64 k/\u = .int .i64 (ca s bin good k)/\Below v.heap.size v E) (λ_ i _=>s.hs.n-(intOf i).toNat)
 case atStart=>exact⟨0,Qxz _,rfl,by simp[ca],Below.refl _ _⟩
 obtain⟨k,T,rfl,rfl,J⟩:=hrel;have m1:=HB.out k T;obtain⟨y,c1,c2,c3,K⟩:=HC.out wr J;by_cases ac:k<s.hs.n;rotate_left
 .have V:k=s.hs.n:=by omega
  subst V
  generalize hHH:ca s bin good s.hs.n=HH at *
  have a7:=hid hHH;clear hHH y;go_wp2_with fail
  go_loopw [7,10] (λu i E=>∃k:Nat,k<=s.ms.n/\i = .int .i64 k/\u = .int .i64 (HH+az s bin good k)/\Below v.heap.size v E) (λ_ i _=>s.ms.n-(intOf i).toNat)
  case atStart=>exact⟨0,Qxz _,rfl,by simp[az],J⟩
  clear J c1 c2 c3 K;obtain⟨k,T,rfl,rfl,J⟩:=hrel;have m2:=MB.out k T;by_cases Y:k<s.ms.n;rotate_left
  .have V:k=s.ms.n:=by omega
   subst V;obtain⟨y,c1,c2,c3,K⟩:=HC.out wr J;clear y c1 c2;go_wp2_with fail;go_ret;exact⟨by rw[<-a7.out];rfl,aj.trans (J.mono aj.size)⟩
  obtain⟨y,c1,c2,c3,K⟩:=HC.out wr J;obtain⟨b,q,ao,hb,z0,z1,z2,z3⟩:=y.ms.hds k Y;have m3:=f.moveN k Y;have A:Hid (((s.ms.z k).l=bin/\(s.ms.z k).o=good->az s bin good (k+1)=az s bin good k+(s.ms.z k).n)/\(¬((s.ms.z k).l=bin/\(s.ms.z k).o=good)->az s bin good (k+1)=az s bin good k)):=⟨λh=>Gc h.1 h.2,J3⟩;have q4:(0:Int)<=(k:Int):=by omega
  have B:=J;have ad:=hid B;rw[ao] at c3;clear ao c1 c2 y B
  generalize az s bin good k=U at *
  generalize (s.ms.z k).l=BB at *
  generalize (s.ms.z k).n=NN at *
  generalize (s.ms.z k).o=GD at *
  cases h1:(BB==(bin:Int))
  .have r:=A.out.2 (by simp at h1;omega);have G:=hid r;clear r A;go_wp2_with fail;go_roundw
   case rel=>exact⟨k+1,by omega,by go_num,by rw[G.out],ad.out⟩
   case measure=>simp[intOf];omega
  cases h2:(GD==(good:Int))
  .have r:=A.out.2 (by simp at h2;omega);have G:=hid r;clear r A;go_wp2_with fail;go_roundw
   case rel=>exact⟨k+1,by omega,by go_num,by rw[G.out],ad.out⟩
   case measure=>simp[intOf];omega
  have r:=A.out.1 ⟨by simpa using h1,by simpa using h2⟩;have G:=hid r;clear r A;go_wp2_with fail;go_roundw
  case rel=>exact⟨k+1,by omega,by go_num,by rw[G.out,Int.add_assoc],ad.out⟩
  case measure=>simp[intOf];omega
 obtain⟨b,q,ab,hb,z0,z1,z2,z3⟩:=y.hs.hds k ac;have m2:=f.holdN k ac;obtain⟨mo,W,b1,o1,b2,o2,N,C,ag,aa,g1,g2,g3,g4,M,g5,g6,g7,g8⟩:=Xd f y.os ac;have HG:=qa4 ab M ag aa;obtain⟨m,ae,x,H⟩:∃m,wr.alloc (.cells #[.int .i64 mo,.int .i64 W,.int .i64 (s.hs.z k).b,.int .i64 (s.hs.z k).n] 103)=m/\Below v.heap.size v m/\Blk m wr.heap.size 103 4 (λj=>(#[.int .i64 mo,.int .i64 W,.int .i64 (s.hs.z k).b,.int .i64 (s.hs.z k).n]:Array Value).getD j default):=⟨_,rfl,J.alloc J.size _,Blk.mk' rfl rfl⟩;have B:Below wr.heap.size wr m:=by rw[<-ae];exact brf.alloc nlr _
 have r0:=Qqq (H.k 0);have r1:=Qqq (H.k 1);have r2:=Qqq (H.k 2);have P:=Qqq (H.k 3);rw[M] at c1;rw[ag] at z0;rw[aa] at z1;have r4:∀d os,(grow (redrawn m d) os).cell? ⟨w.heap.size,1,none⟩=some (.slice (some ⟨b1,o1,none⟩) s.os.n s.os.c):=λd os=>Qqq ((B.cell (p:=⟨w.heap.size,1,none⟩) K).trans c1) d os;have r5:∀d os,(grow (redrawn m d) os).cell? ⟨b1,o1+mo*2+1,none⟩=some (.slice (some ⟨b2,o2,none⟩) N C):=λd os=>Qqq ((B.cell (p:=⟨b1,o1+mo*2+1,none⟩) g5).trans g7) d os;have r6:∀d os,(grow (redrawn m d) os).cell? ⟨b2,o2+W*4,none⟩=some (.int .i64 (jo s (s.hs.z k))):=λd os=>Qqq ((B.cell (p:=⟨b2,o2+W*4,none⟩) g6).trans g8) d os;have S:=hid ae;have q2:(0:Int)<=(mo:Int):=by omega
 have q3:(0:Int)<=(W:Int):=by omega
 have q4:(0:Int)<=(k:Int):=by omega
 have A:Hid (((s.hs.z k).b=bin/\jo s (s.hs.z k)=good->ca s bin good (k+1)=ca s bin good k+(s.hs.z k).n)/\(¬((s.hs.z k).b=bin/\jo s (s.hs.z k)=good)->ca s bin good (k+1)=ca s bin good k)):=⟨λh=>Ma h.1 h.2,J2⟩;rw[ab] at c2;unfold maxLen at g4;clear ag aa M ab ae c1 c3 y B
 generalize jo s (s.hs.z k)=GD at *
 generalize ca s bin good k=U at *
 generalize (s.hs.z k).b=BB at *
 generalize (s.hs.z k).n=NN at *
 cases h1:(BB==(bin:Int))
 .have r:=A.out.2 (by simp at h1;omega);have G:=hid r;clear r A;go_wp2_with fail;rw[S.out];refine Qxq (by kernel_rfl) (by kernel_rfl) ?_
  repeat(go_big_quiet_step(fail))
  refine Qqz ?_;intro _ L;obtain⟨⟨t,g⟩,F⟩:=L;subst F;have X:=x.trans ((Qxx m t g).mono x.size);have ap:=P t g;have aq:wr.heap.size<(grow (redrawn m t) g).heap.size:=Xzx H.lt (Qxx m t g).size;clear r0 r1 r2 P r4 r5 r6 H x S
  generalize grow (redrawn m t) g=wz at *
  go_wp2_with fail;go_roundw
  case rel=>exact⟨k+1,by omega,by go_num,by rw[G.out],X⟩
  case measure=>simp[intOf];omega
 cases h2:(GD==(good:Int));rotate_left
 .have r:=A.out.1 ⟨by simpa using h1,by simpa using h2⟩;have G:=hid r;clear r A;go_wp2_with fail;rw[S.out];refine Qxq (by kernel_rfl) (by kernel_rfl) ?_
  repeat(go_big_quiet_step(fail))
  refine Qqz ?_;intro _ L;obtain⟨⟨t,g⟩,F⟩:=L;subst F;have X:=x.trans ((Qxx m t g).mono x.size);have ap:=P t g;have aq:wr.heap.size<(grow (redrawn m t) g).heap.size:=Xzx H.lt (Qxx m t g).size;clear r0 r1 r2 P r4 r5 r6 H x S
  generalize grow (redrawn m t) g=wz at *
  go_wp2_with fail;go_roundw
  case rel=>exact⟨k+1,by omega,by go_num,by rw[G.out],X⟩
  case measure=>simp[intOf];omega
 have r:=A.out.2 (by simp at h2;omega);have G:=hid r;clear r A;go_wp2_with fail;rw[S.out];refine Qxq (by kernel_rfl) (by kernel_rfl) ?_
 repeat(go_big_quiet_step(fail))
 refine Qqz ?_;intro _ L;obtain⟨⟨t,g⟩,F⟩:=L;subst F;have X:=x.trans ((Qxx m t g).mono x.size);have ap:=P t g;have aq:wr.heap.size<(grow (redrawn m t) g).heap.size:=Xzx H.lt (Qxx m t g).size;clear r0 r1 r2 P r4 r5 r6 H x S
 generalize grow (redrawn m t) g=wz at *
 go_wp2_with fail;go_roundw
 case rel=>exact⟨k+1,by omega,by go_num,by rw[G.out],X⟩
 case measure=>simp[intOf];omega
theorem aa0{s:Sh}(a:ey p s=0)(b:g<p.ns):Fz p s (g:Int)=0/\Ks p s (g:Int)=cv (λi=>(s.r i).z g) s.n:=by
 have h:Fz p s (g:Int)=0:=by
  unfold Fz;rw[a,bq ⟨by omega,by omega⟩]
  rfl
 exact⟨h,by simp[Ks,h]⟩
theorem pq:ii p s g=(!(cv (λi=>(s.on.r i).z g) s.on.n==s.si.z g-s.so.z g+s.sf.z g)||aw p.nb (λb=>decide (ar s b g<0))):=rfl
theorem M4(p:Pl)(s:St)(w:World)(hp:p.At w)(hs:s.At w)(f:cw p s):
  Calls prog 77 #[p.val,s.val] w λe w'=>e = .returned (.bool (kw p s))/\Below w.heap.size w w':=by
 obtain⟨y,hW,k,X0⟩:=G9 w p s;have K:Hid (∀t,Below y.heap.size y t->mf t w.heap.size (w.heap.size+1) p s/\p.At t/\s.At t):=λt h=>⟨X0.below h,(hp.below k).below h,(hs.below k).below h⟩;have HW:=hid hW;have ns3:=f.sh.pl.ns3;have nb6:=f.sh.pl.nb6;have d:=hid f;have au:Hid (∀g,g<p.ns->0<=cv (λi=>(s.on.r i).z g) s.on.n/\cv (λi=>(s.on.r i).z g) s.on.n<=1200):=λg hg=>by
  have:=C7 (z:=λi=>(s.on.r i).z g) (n:=s.on.n) (λj q=>f.sh.num j q g hg) s.on.n nlr;have:=f.sh.n;omega
 clear hW X0 f;unfold Pl.val St.val;go_enter func77,ntmps77;go_wp2_with fail;rw[HW.out]
 go_loopw [12] (λi t=>∃g:Nat,g<=p.ns/\i = .int .i64 g/\(∀j,j<g->ii p s j=false)/\Below y.heap.size y t) (λi _=>p.ns-(intOf i).toNat)
 case atStart=>exact⟨0,Qxz _,rfl,λj q=>absurd q (Qzq _),Below.refl _ _⟩
 obtain⟨g,hg,rfl,v,m⟩:=hrel;have HN:=hid v;clear v;by_cases c:g<p.ns;rotate_left
 .go_wp2_with fail;go_ret;exact⟨by rw[kw,cu λj q=>HN.out j (by omega)];rfl,k.trans (m.mono k.size)⟩
 obtain⟨X,l,a⟩:=K.out wr m;obtain⟨⟨J,Y,d1⟩,o,E,-⟩:=X;obtain⟨V,Q⟩:=aa0 d.out.sh0 c;go_wp2_with fail;refine(aas p s.on g wr l a.on).mono ?_;rintro e w1 ⟨rfl,S⟩;rw[V,Q];clear V Q J o Y d1 E l a;have x:=m.trans (S.mono m.size);clear S;obtain⟨X,l,a⟩:=K.out w1 x;obtain⟨-,o,-,-,-,-,e4,e5,e6⟩:=X;obtain⟨b1,o1,a1,g1,y1⟩:=a.si.ints g (by rw[d.out.sin];exact c);obtain⟨b2,o2,a2,g2,y2⟩:=a.so.ints g (by rw[d.out.son];exact c);obtain⟨b3,o3,a3,g3,y3⟩:=a.sf.ints g (by rw[d.out.sfn];exact c);have u1:=d.out.sib g c;have u2:=d.out.sob g c;have u3:=d.out.sfb g c;have u4:=au.out g c;rw[a1,d.out.sin] at e4;rw[a2,d.out.son] at e5;rw[a3,d.out.sfn] at e6;have v1:=a.si.le;have v2:=a.so.le;have v3:=a.sf.le;have v4:=a.si.cap;have v5:=a.so.cap;have v6:=a.sf.cap;rw[d.out.sin] at v1;rw[d.out.son] at v2;rw[d.out.sfn] at v3;unfold maxLen at v4 v5 v6;have r1:=Qqq e4;have r2:=Qqq e5;have r3:=Qqq e6;have r4:=Qqq y1;have r5:=Qqq y2;have r6:=Qqq y3;have q1:(0:Int)<=(g:Int):=by omega
 have P:Hid (ii p s g=(!(cv (λi=>(s.on.r i).z g) s.on.n==s.si.z g-s.so.z g+s.sf.z g)||aw p.nb (λb=>decide (ar s b g<0)))):=pq;clear e4 e5 e6 y1 y2 y3 a1 a2 a3 l a m
 generalize cv (λi=>(s.on.r i).z g) s.on.n=A at *
 generalize s.si.z g=I1 at *
 generalize s.so.z g=I2 at *
 generalize s.sf.z g=I3 at *
 go_wp2_with fail;refine Qxq (by kernel_rfl) (by kernel_rfl) ?_
 repeat(go_big_quiet_step(fail))
 refine Qqz ?_;intro _ av;obtain⟨⟨dq,T⟩,ad⟩:=av;subst ad;have M:=x.trans ((Qxx w1 dq T).mono x.size);clear r1 r2 r3 r4 r5 r6 x
 generalize grow (redrawn w1 dq) T=wz at *
 cases B:(A==I1-I2+I3)
 .have L:Hid (ii p s g=true):=by show ii p s g=true;rw[P.out,B];rfl
  have u:(A !=I1-I2+I3)=true:=by simp[bne,B]
  rw[u];clear B u P;go_wp2_with fail;go_ret;exact⟨by rw[kw,du c L.out];rfl,k.trans (M.mono k.size)⟩
 have u:(A !=I1-I2+I3)=false:=by simp[bne,B]
 have L:Hid (ii p s g=aw p.nb (λb=>decide (ar s b g<0))):=by show ii p s g=_;rw[P.out,B];rfl
 rw[u];clear B u P;obtain⟨X,l,a⟩:=K.out wz M;obtain⟨⟨J,Y,d1⟩,o,E,c1,c2,c3,c4,c5,c6⟩:=X;clear E c1 c2 c3 c4 c5 c6 d1 l a;have bl:=hp.leb;have am:=hp.capb;unfold maxLen at am;go_wp2_with fail
 go_loopw [45] (λi t=>∃b:Nat,b<=p.nb/\i = .int .i64 b/\(∀j,j<b->decide (ar s j g<0)=false)/\Below y.heap.size y t) (λi _=>p.nb-(intOf i).toNat)
 case atStart=>exact⟨0,Qxz _,rfl,λj q=>absurd q (Qzq _),M⟩
 clear M J o Y;obtain⟨b,hb,rfl,v,m⟩:=hrel;have HM:=hid v;clear v;by_cases U:b<p.nb;rotate_left
 .have G:Hid (ii p s g=false):=by show ii p s g=false;rw[L.out];exact cu λj q=>HM.out j (by omega)
  go_wp2_with fail;go_roundw
  case measure=>simp[intOf];omega
  refine⟨g+1,by omega,by go_num,?_,m⟩;intro j q;by_cases F:j=g
  .rw[F];exact G.out
  exact HN.out j (by omega)
 obtain⟨X,l,a⟩:=K.out wr m;obtain⟨-,o,E,c1,c2,c3,c4,c5,c6⟩:=X;go_wp2_with fail;refine(Pa p s b g wr a d.out U c).mono ?_;rintro e w2 ⟨rfl,W⟩;clear o E c1 c2 c3 c4 c5 c6 l a;have x:=m.trans (W.mono m.size);clear W;cases D:decide (ar s b g<0)
 .have G:=hid D;have H:¬ar s b g<0:=of_decide_eq_false D
  generalize ar s b g=AV at H ⊢
  clear D;go_wp2_with fail;go_roundw
  case measure=>simp[intOf];omega
  refine⟨b+1,by omega,by go_num,?_,x⟩;intro j q;by_cases F:j=b
  .rw[F];exact G.out
  exact HM.out j (by omega)
 have G:Hid (ii p s g=true):=by show ii p s g=true;rw[L.out];exact du U D
 have H:ar s b g<0:=of_decide_eq_true D
 generalize ar s b g=AV at H ⊢
 clear D;go_wp2_with fail;go_ret;exact⟨by rw[kw,du c G.out];rfl,k.trans (x.mono k.size)⟩
theorem S4{s:Hs}{o l:Int}(h:aw s.n (da s.z)=false):(if h9 s.n s.z=0 then keptS s.z o l s.n else 0)=keptS s.z o l s.n/\h9 s.n s.z=0:=by
 have:h9 s.n s.z=0:=by simp[h9,h]
 exact⟨if_pos this,this⟩
theorem G5:cg s i=(((s.os.z i).k==1 && !aw (s.os.z i).ls.n (λj=>js ((s.os.z i).ls.z j)))||aw (s.os.z i).ls.n (λj=>cp (s.os.z i).k ((s.os.z i).ls.z j) (keptS s.hs.z i j s.hs.n))):=rfl
theorem Mr(p:Pl)(s:St)(w:World)(hs:s.At w)(f:cw p s):
  Calls prog 78 #[s.val] w λe w'=>e = .returned (.bool (jf s))/\Below w.heap.size w w':=by
 obtain⟨x,bd,D,hX⟩:∃x,w.alloc (.cells s.cells 31)=x/\Below w.heap.size w x/\Blk x w.heap.size 31 7 (λj=>s.cells.getD j default):=⟨_,rfl,(Below.refl w.heap.size w).alloc nlr _,Blk.mk' rfl rfl⟩;have bc:=hs.below D;have HC:Hid (∀m,Below x.heap.size x m->s.At m/\m.cell? ⟨w.heap.size,2,none⟩=some (.slice s.hs.a s.hs.n s.hs.c)/\w.heap.size<m.heap.size):=
  λm h=>⟨bc.below h,(hX.below h).k 2,(hX.below h).lt⟩
 have HW:Hid (w.alloc (.cells #[.slice s.on.a s.on.n s.on.c,.slice s.os.a s.os.n s.os.c,.slice s.hs.a s.hs.n s.hs.c,.slice s.ms.a s.ms.n s.ms.c,.slice s.si.a s.si.n s.si.c,.slice s.so.a s.so.n s.so.c,.slice s.sf.a s.sf.n s.sf.c] 31)=x):=bd;have os4:=f.os4;have b9:=hs.os.le;have a9:=hs.os.cap;have ch:=f.hs72;have HF:=hid f;unfold maxLen at a9;clear bd hX bc f;unfold St.val;go_enter func78,ntmps78;go_wp2_with fail;rw[HW.out]
 go_loopw [12] (λi m=>∃k:Nat,k<=s.os.n/\i = .int .i64 k/\(∀j,j<k->cg s j=false)/\Below x.heap.size x m) (λi _=>s.os.n-(intOf i).toNat)
 case atStart=>exact⟨0,Qxz _,rfl,λj X=>absurd X (Qzq _),Below.refl _ _⟩
 obtain⟨i,hi,rfl,F,hB⟩:=hrel;have HN:=hid F;clear F;by_cases Y:i<s.os.n;rotate_left
 .go_wp2_with fail;go_ret;exact⟨by rw[jf,cu λj X=>HN.out j (by omega)];rfl,D.trans (hB.mono D.size)⟩
 obtain⟨G,c2,au⟩:=HC.out wr hB;obtain⟨b,o,be,hb,z0,z1,hl⟩:=G.os.ods i Y;have q1:(0:Int)<=(i:Int):=by omega
 have HE:Hid (cg s i=(((s.os.z i).k==1 && !aw (s.os.z i).ls.n (λj=>js ((s.os.z i).ls.z j)))||aw (s.os.z i).ls.n (λj=>cp (s.os.z i).k ((s.os.z i).ls.z j) (keptS s.hs.z i j s.hs.n)))):=G5;have HL:Hid (∀j,j<(s.os.z i).ls.n->(0<=((s.os.z i).ls.z j).b/\((s.os.z i).ls.z j).b<=200)/\(0<=((s.os.z i).ls.z j).n/\((s.os.z i).ls.z j).n<=200)/\0<=keptS s.hs.z i j s.hs.n/\keptS s.hs.z i j s.hs.n<=14400):=λj X=>by
  have a:=dz (HF.out.line i Y j X);have c:=ro (z:=s.hs.z) (i:Int) (j:Int) s.hs.n HF.out.holdN;omega
 have n3:=(HF.out.lns i Y).2;have HB:=hid hb;rw[be];clear be G c2
 generalize (s.os.z i).k=u at *
 generalize (s.os.z i).ls=d at *
 obtain⟨W1,a5,ak,hY⟩:∃W1,wr.alloc (.cells #[.int .i64 u,.slice d.a d.n d.c] 66)=W1/\Below x.heap.size x W1/\Blk W1 wr.heap.size 66 2 (λj=>(#[.int .i64 u,.slice d.a d.n d.c]:Array Value).getD j default):=⟨_,rfl,hB.alloc hB.size _,Blk.mk' rfl rfl⟩;have HV:=hid a5;have L:d.At W1:=by rw[<-a5];exact hl.below (brf.alloc nlr _)
 clear a5;cases h1:(u==1)
 .have ad:Hid (cg s i=aw d.n (λj=>cp u (d.z j) (keptS s.hs.z i j s.hs.n))):=by show cg s i=_;rw[HE.out,h1];rfl
  clear HE;go_wp2_with fail;rw[HV.out];have ag:=ak;have ae:=L;have A:=hY;obtain⟨S,g⟩:∃S,wr.heap.size=S:=⟨_,rfl⟩;rw[g] at A ⊢;have HD:Hid (∀m,Below W1.heap.size W1 m->d.At m/\m.cell? ⟨S,0,none⟩=some (.int .i64 u)/\S<m.heap.size/\Below x.heap.size x m):=λm h=>⟨ae.below h,(A.below h).k 0,(A.below h).lt,ag.trans (h.mono ag.size)⟩;clear ae A hl hB au z0 z1 g ak L hY HV HB hb
  go_loopw [29] (λi0 m=>∃k:Nat,k<=d.n/\i0 = .int .i64 k/\(∀j,j<k->cp u (d.z j) (keptS s.hs.z i j s.hs.n)=false)/\Below W1.heap.size W1 m) (λi0 _=>d.n-(intOf i0).toNat)
  case atStart=>exact⟨0,Qxz _,rfl,λj X=>absurd X (Qzq _),Below.refl _ _⟩
  obtain⟨j,X,rfl,F,v⟩:=hrel;have HM:=hid F;clear F;by_cases M:j<d.n;rotate_left
  .have HA:Hid (cg s i=false):=by show cg s i=false;rw[ad.out];exact cu λq af=>HM.out q (by omega)
   have t:=(HD.out wr v).2.2.2;go_wp2_with fail;go_roundw
   case measure=>simp[intOf];omega
   refine⟨i+1,by omega,by go_num,?_,t⟩;intro q af;by_cases K:q=i
   .rw[K];exact HA.out
   exact HN.out q (by omega)
  obtain⟨ai,d0,J,t⟩:=HD.out wr v;obtain⟨G,c2,au⟩:=HC.out wr t;obtain⟨b',o',ah,b5,y0,y1,y2,y3⟩:=ai.hds j M;have q2:(0:Int)<=(j:Int):=by omega
  obtain⟨k1,k2,k3⟩:=HL.out j M;have HT:Hid (cp u (d.z j) (keptS s.hs.z i j s.hs.n)=true->cg s i=true):=λh=>by rw[ad.out];exact du M h
  have HU:Hid (cp u (d.z j) (keptS s.hs.z i j s.hs.n)=false->∀q,q<j+1->cp u (d.z q) (keptS s.hs.z i q s.hs.n)=false):=λh q af=>by
   by_cases K:q=j
   .rw[K];exact h
   exact HM.out q (by omega)
  have aj:=S4 (s:=s.hs) (o:=i) (l:=j) HF.out.hold;have B:=(Below.refl wr.heap.size wr).alloc nlr (.cells #[.int .i64 (d.z j).o,.int .i64 (d.z j).l,.int .i64 (d.z j).b,.int .i64 (d.z j).n] 68);have ac:=Blk.new wr #[.int .i64 (d.z j).o,.int .i64 (d.z j).l,.int .i64 (d.z j).b,.int .i64 (d.z j).n] 68;have V:=hid aj;rw[ah];clear ah ai HM aj
  generalize d.z j=E at *
  go_wp2_with fail;refine(P1 s.hs i j _ (G.hs.below B)).mono ?_;rintro e Q ⟨rfl,U⟩;rw[V.out.1,V.out.2]
  generalize keptS s.hs.z i j s.hs.n=KP at *
  have g:=B.trans (U.mono B.size);have r:=ac.below U;have d0:=(g.cell (p:=⟨S,0,none⟩) J).trans d0;have J:=Xzx J g.size;have t0:Q.cell? ⟨wr.heap.size,0,none⟩=some (.int .i64 E.o):=r.cell (j:=0) (by simp);have t1:Q.cell? ⟨wr.heap.size,1,none⟩=some (.int .i64 E.l):=r.cell (j:=1) (by simp);have t2:Q.cell? ⟨wr.heap.size,2,none⟩=some (.int .i64 E.b):=r.cell (j:=2) (by simp);have t3:Q.cell? ⟨wr.heap.size,3,none⟩=some (.int .i64 E.n):=r.cell (j:=3) (by simp);have bp:=r.lt;have T:=v.trans (g.mono v.size);have P:=t.trans (g.mono t.size);clear U ac B r g G c2 y0 y1 y2 y3 v t V;go_wp2_with fail;refine(G6 u E KP Q k1 k2 k3).mono ?_;rintro e w5 ⟨rfl,H⟩;have a2:=T.trans (H.mono T.size);have a7:=P.trans (H.mono P.size);clear H T P t0 t1 t2 t3 d0;cases hw:cp u E KP
  .have W:=HU.out hw;have y:Hid _:=W;clear hw W HU HT;go_wp2_with fail;go_roundw
   case rel=>exact⟨j+1,by omega,by go_num,y.out,a2⟩
   case measure=>simp[intOf];omega
  have W:=HT.out hw;have y:=hid W;clear hw W HU HT;go_wp2_with fail;go_ret;exact⟨by rw[jf,du Y y.out];rfl,D.trans (a7.mono D.size)⟩
 have bl:=L.le;have ax:=L.cap;have bn:=ax;unfold maxLen at bn;go_wp2_with fail;rw[HV.out];refine(Mc 133 #[] (λj=>js (d.z j)) _ _ _ _ bl ax d.z L.hds (enters_of func133 (by kernel_rfl) rfl) (λi w1 _ _=>by rw[Array.append_empty];exact Wf _ _)).mono ?_;rintro e W2 ⟨rfl,ar⟩;have ao:=ak.trans (ar.mono ak.size);have a4:=L.below ar;have av:=hY.below ar;have d1:=av.cell (j:=1) (by simp);have b8:W2.cell? ⟨wr.heap.size,1,none⟩=some (.slice d.a d.n d.c):=d1;have bz:=av.lt;clear d1 ar;cases h2:aw d.n (λj=>js (d.z j))
 .have y:Hid (cg s i=true):=by show cg s i=true;rw[HE.out,h1,h2];rfl
  clear h2;go_wp2_with fail;go_ret;exact⟨by rw[jf,du Y y.out];rfl,D.trans (ao.mono D.size)⟩
 have ad:Hid (cg s i=aw d.n (λj=>cp u (d.z j) (keptS s.hs.z i j s.hs.n))):=by show cg s i=_;rw[HE.out,h1,h2];rfl
 clear HE h2;go_wp2_with fail;clear b8 bz;have ag:=ao;have ae:=a4;have A:=av;obtain⟨S,g⟩:∃S,wr.heap.size=S:=⟨_,rfl⟩;rw[g] at A ⊢;have HD:Hid (∀m,Below W2.heap.size W2 m->d.At m/\m.cell? ⟨S,0,none⟩=some (.int .i64 u)/\S<m.heap.size/\Below x.heap.size x m):=λm h=>⟨ae.below h,(A.below h).k 0,(A.below h).lt,ag.trans (h.mono ag.size)⟩;clear ae A hl hB au z0 z1 g ak L hY HV HB hb ao a4 av
 go_loopw [29] (λi0 m=>∃k:Nat,k<=d.n/\i0 = .int .i64 k/\(∀j,j<k->cp u (d.z j) (keptS s.hs.z i j s.hs.n)=false)/\Below W2.heap.size W2 m) (λi0 _=>d.n-(intOf i0).toNat)
 case atStart=>exact⟨0,Qxz _,rfl,λj X=>absurd X (Qzq _),Below.refl _ _⟩
 obtain⟨j,X,rfl,F,v⟩:=hrel;have HM:=hid F;clear F;by_cases M:j<d.n;rotate_left
 .have HA:Hid (cg s i=false):=by show cg s i=false;rw[ad.out];exact cu λq af=>HM.out q (by omega)
  have t:=(HD.out wr v).2.2.2;go_wp2_with fail;go_roundw
  case measure=>simp[intOf];omega
  refine⟨i+1,by omega,by go_num,?_,t⟩;intro q af;by_cases K:q=i
  .rw[K];exact HA.out
  exact HN.out q (by omega)
 obtain⟨ai,d0,J,t⟩:=HD.out wr v;obtain⟨G,c2,au⟩:=HC.out wr t;obtain⟨b',o',ah,b5,y0,y1,y2,y3⟩:=ai.hds j M;have q2:(0:Int)<=(j:Int):=by omega
 obtain⟨k1,k2,k3⟩:=HL.out j M;have HT:Hid (cp u (d.z j) (keptS s.hs.z i j s.hs.n)=true->cg s i=true):=λh=>by rw[ad.out];exact du M h
 have HU:Hid (cp u (d.z j) (keptS s.hs.z i j s.hs.n)=false->∀q,q<j+1->cp u (d.z q) (keptS s.hs.z i q s.hs.n)=false):=λh q af=>by
  by_cases K:q=j
  .rw[K];exact h
  exact HM.out q (by omega)
 have aj:=S4 (s:=s.hs) (o:=i) (l:=j) HF.out.hold;have B:=(Below.refl wr.heap.size wr).alloc nlr (.cells #[.int .i64 (d.z j).o,.int .i64 (d.z j).l,.int .i64 (d.z j).b,.int .i64 (d.z j).n] 68);have ac:=Blk.new wr #[.int .i64 (d.z j).o,.int .i64 (d.z j).l,.int .i64 (d.z j).b,.int .i64 (d.z j).n] 68;have V:=hid aj;rw[ah];clear ah ai HM aj
 generalize d.z j=E at *
 go_wp2_with fail;refine(P1 s.hs i j _ (G.hs.below B)).mono ?_;rintro e Q ⟨rfl,U⟩;rw[V.out.1,V.out.2]
 generalize keptS s.hs.z i j s.hs.n=KP at *
 have g:=B.trans (U.mono B.size);have r:=ac.below U;have d0:=(g.cell (p:=⟨S,0,none⟩) J).trans d0;have J:=Xzx J g.size;have t0:Q.cell? ⟨wr.heap.size,0,none⟩=some (.int .i64 E.o):=r.cell (j:=0) (by simp);have t1:Q.cell? ⟨wr.heap.size,1,none⟩=some (.int .i64 E.l):=r.cell (j:=1) (by simp);have t2:Q.cell? ⟨wr.heap.size,2,none⟩=some (.int .i64 E.b):=r.cell (j:=2) (by simp);have t3:Q.cell? ⟨wr.heap.size,3,none⟩=some (.int .i64 E.n):=r.cell (j:=3) (by simp);have bp:=r.lt;have T:=v.trans (g.mono v.size);have P:=t.trans (g.mono t.size);clear U ac B r g G c2 y0 y1 y2 y3 v t V;go_wp2_with fail;refine(G6 u E KP Q k1 k2 k3).mono ?_;rintro e w5 ⟨rfl,H⟩;have a2:=T.trans (H.mono T.size);have a7:=P.trans (H.mono P.size);clear H T P t0 t1 t2 t3 d0;cases hw:cp u E KP
 .have W:=HU.out hw;have y:Hid _:=W;clear hw W HU HT;go_wp2_with fail;go_roundw
  case rel=>exact⟨j+1,by omega,by go_num,y.out,a2⟩
  case measure=>simp[intOf];omega
 have W:=HT.out hw;have y:=hid W;clear hw W HU HT;go_wp2_with fail;go_ret;exact⟨by rw[jf,du Y y.out];rfl,D.trans (a7.mono D.size)⟩
def jb(p:Pl)(s:St):Bool := !(kw p s||jf s)
theorem Td(a:g<p.ns)(h:ii p s g=true):jb p s=false:=by
 have:kw p s=true:=du a h;simp[jb,this]
theorem Ki(hi:i<s.os.n)(h:cg s i=true):jb p s=false:=by
 have:jf s=true:=du hi h;simp[jb,this]
theorem abb(d:∀g,g<p.ns->ii p s g=false)(b:∀i,i<s.os.n->cg s i=false):jb p s=true:=by
 have a:kw p s=false:=cu d;have c:jf s=false:=cu b;simp[jb,a,c]
theorem abe(h:¬cv (λi=>(s.on.r i).z g) s.on.n=s.si.z g-s.so.z g+s.sf.z g):ii p s g=true:=by
 rw[pq];have:(cv (λi=>(s.on.r i).z g) s.on.n==s.si.z g-s.so.z g+s.sf.z g)=false:=by simpa using h
 rw[this];rfl
theorem Yl(a:b<p.nb)(h:(s.on.r b).z g<ca s b g s.hs.n+az s b g s.ms.n):ii p s g=true:=by
 rw[pq,du a (decide_eq_true (by unfold ar;omega)),Bool.or_true]
theorem abz(h:cv (λi=>(s.on.r i).z g) s.on.n=s.si.z g-s.so.z g+s.sf.z g)(c:∀b,b<p.nb->decide ((s.on.r b).z g<ca s b g s.hs.n+az s b g s.ms.n)=false):ii p s g=false:=by
 rw[pq,h,cu λb a => ?_]
 .simp
 have:=of_decide_eq_false (c b a);exact decide_eq_false (by unfold ar;omega)
def sp(ls:Nat->Hd)(n:Nat):Bool := !aw n (λj=>js (ls j))
theorem Rz(ls:Nat->Hd)(n:Nat):sp ls (n+1)=(sp ls n&&((ls n).b==(ls n).l)):=by
 unfold sp;rw[Dr];simp[js]
theorem Sn{b c:Bool}(h:sp z n=b)(a:((z n).b==(z n).l)=c):sp z (n+1)=(b&&c):=by rw[Rz,h,a]
theorem zi{k:Nat}{f:Nat->Bool}{b:Bool}(h:∀j,j<k->f j=b)(c:f k=b):∀j,j<k+1->f j=b:=λj d=>by
 by_cases a:j=k
 .rw[a];exact c
 exact h j (by omega)
theorem wL0{x:Hd}(d:0<=x.b/\x.b<=200)(c:0<=x.n/\x.n<=200)(a:0<=r/\r<=14400):cp 0 x r = !(x.b+x.n+r==0):=by
 unfold cp;rw[if_pos rfl,Bool.eq_iff_iff];simp only[Bool.or_eq_true,Bool.not_eq_true',beq_eq_false_iff_ne,ne_eq];omega
theorem wL1{x:Hd}:cp 1 x r = !(x.b+x.n+r==x.l):=by
 unfold cp;rw[if_neg (by decide),if_neg (by decide)]
theorem wL2{x:Hd}:cp 2 x r=(!(x.b+x.n+r==x.l) || !(r==0)):=by
 unfold cp;rw[if_neg (by decide),if_pos rfl,Bool.eq_iff_iff];simp only[Bool.or_eq_true,Bool.not_eq_true',beq_eq_false_iff_ne,ne_eq];omega
theorem af(h:∃p:Regrown,a=grow (redrawn w p.d) p.os):Below w.heap.size w a:=by
 obtain⟨p,rfl⟩:=h;exact Qxx _ _ _
theorem Jt{A:World}{B:Nat}(c:Blk w B e 4 f)(d:Below A.heap.size A w)(a:A.heap.size<=B)(x:Hd):
  ∃W,(((w.setCell ⟨B,0,none⟩ (.int .i64 x.o)).setCell ⟨B,1,none⟩ (.int .i64 x.l)).setCell ⟨B,2,none⟩ (.int .i64 x.b)).setCell ⟨B,3,none⟩ (.int .i64 x.n)=W/\Below A.heap.size A W /\
   Blk W B e 4 (λj=>(#[.int .i64 x.o,.int .i64 x.l,.int .i64 x.b,.int .i64 x.n]:Array Value).getD j default):=
 ⟨_,rfl,(((d.setCell (p:=⟨B,0,none⟩) a _).setCell (p:=⟨B,1,none⟩) a _).setCell (p:=⟨B,2,none⟩) a _).setCell (p:=⟨B,3,none⟩) a _,
  ((((c.set 0 _).set 1 _).set 2 _).set 3 _).congr (λj g=>by match j,g with|0,_=>rfl|1,_=>rfl|2,_=>rfl|3,_=>rfl)⟩
theorem Uz(p:Pl)(s:St)(w:World)(hp:p.At w)(hs:s.At w)(f:cw p s):
  Calls prog 139 #[p.val,s.val] w λe w'=>e = .returned (.bool (jb p s))/\Below w.heap.size w w':=by
 obtain⟨W0,hW,ef,X0⟩:=G9 w p s;have HC:=F8 hp hs ef X0;have HW:=hid hW;have leb:=hp.leb;have capb:=hp.capb;have les:=hp.les;have caps:=hp.caps;have fm:=hs.os.le;have dx:=hs.os.cap;unfold maxLen at capb caps dx;have os4:=f.os4;have fh:=f.hs72;have ms8:=f.ms8;have ns3:=f.sh.pl.ns3;have nb6:=f.sh.pl.nb6;have HF:=hid f;clear hW X0 hp hs f;unfold Pl.val St.val;go_enter func139,ntmps139;go_wp2_with fail;rw[HW.out]
 go_loopw [5] (λi t=>∃k:Nat,k<=p.ns/\i = .int .i64 k/\(∀j,j<k->ii p s j=false)/\Below W0.heap.size W0 t) (λi _=>p.ns-(intOf i).toNat)
 case atStart=>exact⟨0,Qxz _,rfl,λj hj=>absurd hj (Qzq _),Below.refl _ _⟩
 obtain⟨g,hg,rfl,aa,E⟩:=hrel;have HN:=hid aa;clear aa;obtain⟨X,al,G,A⟩:=HC.out wr E;obtain⟨⟨l1,d0,d1⟩,l2,c0,c1,c2,c3,c4,c5,c6⟩:=X;by_cases J:g<p.ns
 .have qg:(0:Int)<=(g:Int):=by omega
  have F:=HF.out;obtain⟨b1,o1,e1,g1,z1⟩:=G.si.ints g (by rw[F.sin];exact J);obtain⟨b2,o2,e2,g2,z2⟩:=G.so.ints g (by rw[F.son];exact J);obtain⟨b3,o3,e3,g3,z3⟩:=G.sf.ints g (by rw[F.sfn];exact J);have v1:=G.si.le;have v2:=G.so.le;have v3:=G.sf.le;have v4:=G.si.cap;have v5:=G.so.cap;have v6:=G.sf.cap;have u1:=F.sib g J;have u2:=F.sob g J;have u3:=F.sfb g J;unfold maxLen at v4 v5 v6;have dj:=hid G.on;rw[e1,F.sin] at c4;rw[e2,F.son] at c5;rw[e3,F.sfn] at c6;rw[F.sin] at v1;rw[F.son] at v2;rw[F.sfn] at v3;have r0:=Qqq c0;have r4:=Qqq c4;have r5:=Qqq c5;have r6:=Qqq c6;have r7:=Qqq z1;have r8:=Qqq z2;have r9:=Qqq z3;have en:Hid (¬cv (λi=>(s.on.r i).z g) s.on.n=s.si.z g-s.so.z g+s.sf.z g->jb p s=false):=λh=>Td J (abe h);have ec:Hid (∀b,b<p.nb->(s.on.r b).z g<ca s b g s.hs.n+az s b g s.ms.n->jb p s=false):=λb hb h=>Td J (Yl hb h);have d9:Hid (cv (λi=>(s.on.r i).z g) s.on.n=s.si.z g-s.so.z g+s.sf.z g->(∀b,b<p.nb->decide ((s.on.r b).z g<ca s b g s.hs.n+az s b g s.ms.n)=false)->ii p s g=false):=λh x=>abz h x;have b5:Hid (∀t,s.on.At t->Calls prog 159 #[s.on.val,.int .i64 g] t λe w'=>e = .returned (.int .i64 (cv (λi=>(s.on.r i).z g) s.on.n))/\Below t.heap.size t w'):=λt h=>Wq p s.on g t h F.sh J;unfold Sh.val at b5;clear e1 e2 e3 G al c0 c1 c2 c3 c4 c5 c6 z1 z2 z3 d0 F
  generalize cv (λi=>(s.on.r i).z g) s.on.n=SM at *
  generalize s.si.z g=I1 at *
  generalize s.so.z g=I2 at *
  generalize s.sf.z g=I3 at *
  go_wp2_with fail;refine Qxq (by kernel_rfl) (by kernel_rfl) ?_
  repeat(go_big_quiet_step((go_at_call 159;exact Xxz (b5.out _ (dj.out.below (Qxx _ _ _))))))
  refine Qqz ?_;intro _ am;obtain⟨⟨dq,a7⟩,U⟩:=am;subst U;have cq:=E.trans ((Qxx wr dq a7).mono E.size);clear r0 r4 r5 r6 r7 r8 r9 dj b5 E A l1 l2 d1 g1 g2 g3 v1 v2 v3 v4 v5 v6
  generalize grow (redrawn wr dq) a7=wz at *
  obtain⟨X,al,G,A⟩:=HC.out wz cq;obtain⟨⟨l1,d0,d1⟩,l2,c0,c1,c2,c3,c4,c5,c6⟩:=X;by_cases bf:SM=I1-I2+I3;rotate_left
  .have he:(SM !=I1-I2+I3)=true:=by simp[bf]
   have y:Hid (jb p s=false):=en.out bf;rw[he];clear bf he al G c0 c1 c2 c3 c4 c5 c6 d0 d1 l1 l2;go_wp2_with fail;go_ret;exact⟨by rw[y.out];rfl,A⟩
  have he:(SM !=I1-I2+I3)=false:=by simp[bf]
  have d7:=hid bf;rw[he];clear bf he al G c0 c1 c2 c3 c4 c5 c6 A;go_wp2_with fail;clear d0 d1 l1 l2
  go_loopw [6] (λi t=>∃k:Nat,k<=p.nb/\i = .int .i64 k/\(∀b,b<k->decide ((s.on.r b).z g<ca s b g s.hs.n+az s b g s.ms.n)=false)/\Below W0.heap.size W0 t) (λi _=>p.nb-(intOf i).toNat)
  case atStart=>exact⟨0,Qxz _,rfl,λj hj=>absurd hj (Qzq _),cq⟩
  clear cq;obtain⟨b,hb,rfl,aa,E⟩:=hrel;have HM:=hid aa;clear aa;obtain⟨X,al,G,A⟩:=HC.out wr E;obtain⟨⟨l1,d0,d1⟩,l2,c0,c1,c2,c3,c4,c5,c6⟩:=X;by_cases dh:b<p.nb;rotate_left
  .have HA:Hid (ii p s g=false):=d9.out d7.out λb' dd=>HM.out b' (by omega);clear G al c0 c1 c2 c3 c4 c5 c6 HM;go_wp2_with fail;go_roundw
   case rel=>exact⟨g+1,by omega,by go_num,zi HN.out HA.out,E⟩
   case measure=>simp[intOf];omega
  have qb:(0:Int)<=(b:Int):=by omega
  have F:=HF.out;have cm:b<s.on.n:=by rw[F.sh.n];exact dh
  obtain⟨bo,oo,bg,fl,y0,bh⟩:=G.on.rows b cm;have rn:=F.sh.len b cm;obtain⟨br,fj,df,fi,y1⟩:=bh.ints g (by rw[rn];exact J);have v1:=bh.le;have v2:=bh.cap;have v3:=G.on.le;have v4:=G.on.cap;unfold maxLen at v2 v4;have hx:=mt (s:=s) (b:=b) (g:=g) F.holdN;have hy:=jr (s:=s) (b:=b) (g:=g) F.moveN;have hz:=F.sh.num b cm g J;rw[df,rn] at y0;rw[rn] at v1;rw[bg] at c0;have cy:=qa2 G bg;have r0:=Qqq c0;have r1:=Qqq c1;have r2:=Qqq c2;have r3:=Qqq c3;have r4:=Qqq c4;have r5:=Qqq c5;have r6:=Qqq c6;have r7:=Qqq y0;have r8:=Qqq y1;have di:Hid (∀t,s.At t->Calls prog 90 #[.agg #[.slice (some ⟨bo,oo,none⟩) s.on.n s.on.c,.slice s.os.a s.os.n s.os.c,.slice s.hs.a s.hs.n s.hs.c,.slice s.ms.a s.ms.n s.ms.c,.slice s.si.a s.si.n s.si.c,.slice s.so.a s.so.n s.so.c,.slice s.sf.a s.sf.n s.sf.c],.int .i64 b,.int .i64 g] t λe w'=>e = .returned (.int .i64 (ca s b g s.hs.n+az s b g s.ms.n))/\Below t.heap.size t w'):=λt h=>by
   have:=Hk p s b g t h HF.out;rw[St.val,cy.out.2] at this;exact this
  have dg:Hid (((s.on.r b).z g<ca s b g s.hs.n+az s b g s.ms.n->jb p s=false)/\(¬(s.on.r b).z g<ca s b g s.hs.n+az s b g s.ms.n->∀b',b'<b+1->decide ((s.on.r b').z g<ca s b' g s.hs.n+az s b' g s.ms.n)=false)):=⟨ec.out b dh,λh=>zi HM.out (decide_eq_false h)⟩;clear bg df bh rn F G al c0 c1 c2 c3 c4 c5 c6 y0 y1 HM d1
  generalize ca s b g s.hs.n+az s b g s.ms.n=BD at *
  generalize (s.on.r b).z g=ON at *
  generalize (s.on.r b).c=RC at *
  by_cases hq:ON<BD
  .have y:Hid (jb p s=false):=dg.out.1 hq;go_wp2_with fail;refine Qxq (by kernel_rfl) (by kernel_rfl) ?_
   repeat(go_big_quiet_step((go_at_call 90;exact Xxz (di.out _ (cy.out.1.below (Qxx _ _ _))))))
   refine Qqz ?_;intro _ am;obtain⟨⟨dq,a7⟩,U⟩:=am;subst U;go_wp2_with fail;go_ret;exact⟨by rw[y.out];rfl,A.trans ((Qxx _ _ _).mono A.size)⟩
  have y:=dg.out.2 hq;have ae:Hid _:=y;clear y;go_wp2_with fail;refine Qxq (by kernel_rfl) (by kernel_rfl) ?_
  repeat(go_big_quiet_step((go_at_call 90;exact Xxz (di.out _ (cy.out.1.below (Qxx _ _ _))))))
  refine Qqz ?_;intro _ am;obtain⟨⟨dq,a7⟩,U⟩:=am;subst U;go_wp2_with fail;go_roundw
  case rel=>exact⟨b+1,by omega,by go_num,ae.out,E.trans ((Qxx _ _ _).mono E.size)⟩
  case measure=>simp[intOf];omega
 have eq:Hid (∀j,j<p.ns->ii p s j=false):=λj hj=>HN.out j (by omega);clear HN G al c0 c1 c2 c3 c4 c5 c6 A;go_wp2_with fail;clear d0 d1 l1 l2 J hg
 go_loopw [7] (λi t=>∃k:Nat,k<=s.os.n/\i = .int .i64 k/\(∀j,j<k->cg s j=false)/\Below W0.heap.size W0 t) (λi _=>s.os.n-(intOf i).toNat)
 case atStart=>exact⟨0,Qxz _,rfl,λj hj=>absurd hj (Qzq _),E⟩
 clear E;obtain⟨i,hi,rfl,aa,E⟩:=hrel;have HN:=hid aa;clear aa;obtain⟨X,al,G,A⟩:=HC.out wr E;obtain⟨⟨l1,d0,d1⟩,l2,c0,c1,c2,c3,c4,c5,c6⟩:=X;by_cases J:i<s.os.n;rotate_left
 .have y:Hid (jb p s=true):=abb eq.out λj hj=>HN.out j (by omega);clear G al c0 c2 c3 c4 c5 c6 d0 d1;go_wp2_with fail;go_ret;exact⟨by rw[y.out];rfl,A⟩
 obtain⟨b,o,bg,hb,S,z1,hl⟩:=G.os.ods i J;have qi:(0:Int)<=(i:Int):=by omega
 have HL:Hid (∀t,Below W0.heap.size W0 t->t.cell? ⟨b,o+i*2,none⟩=some (.int .i64 (s.os.z i).k)/\t.cell? ⟨b,o+i*2+1,none⟩=some (.slice (s.os.z i).ls.a (s.os.z i).ls.n (s.os.z i).ls.c)/\(s.os.z i).ls.At t/\t.cell? ⟨w.heap.size+1,1,none⟩=some (.slice (some ⟨b,o,none⟩) s.os.n s.os.c)/\w.heap.size+1<t.heap.size/\b<t.heap.size/\Below w.heap.size w t/\s.hs.At t/\t.cell? ⟨w.heap.size+1,2,none⟩=some (.slice s.hs.a s.hs.n s.hs.c)):=λt h=>by
  obtain⟨X,-,db,eb⟩:=HC.out t h;obtain⟨-,m2,-,f1,f2,-⟩:=X;obtain⟨b',o',b6,dd,x0,x1,el⟩:=db.os.ods i J;rw[bg] at b6 f1;simp only[Qkx,Qkz,and_true] at b6;obtain⟨rfl,rfl⟩:=b6;exact⟨x0,x1,el,f1,m2,dd,eb,db.hs,f2⟩
 have fk:=hl.le;have ds:=hl.cap;have l3:=HF.out.lns i J;have kd:=HF.out.kind i J;unfold maxLen at ds;have HE:Hid (cg s i=(((s.os.z i).k==1&&sp (s.os.z i).ls.z (s.os.z i).ls.n)||aw (s.os.z i).ls.n (λj=>cp (s.os.z i).k ((s.os.z i).ls.z j) (keptS s.hs.z i j s.hs.n)))):=G5;have de:Hid (∀j,j<(s.os.z i).ls.n->(0<=((s.os.z i).ls.z j).b/\((s.os.z i).ls.z j).b<=200)/\(0<=((s.os.z i).ls.z j).n/\((s.os.z i).ls.z j).n<=200)/\0<=keptS s.hs.z i j s.hs.n/\keptS s.hs.z i j s.hs.n<=14400):=λj hj=>by
  have a:=dz (HF.out.line i J j hj);have c:=ro (z:=s.hs.z) (i:Int) (j:Int) s.hs.n HF.out.holdN;omega
 clear bg hl G al c0 c2 c3 c4 c5 c6 S z1 d0 d1 A hb
 generalize (s.os.z i).k=M at *
 generalize (s.os.z i).ls=H at *
 go_wp2_with fail;clear c1 l1 l2
 go_loopw [8,9] (λu i0 t=>∃k:Nat,k<=H.n/\i0 = .int .i64 k/\u = .bool (sp H.z k)/\Below W0.heap.size W0 t) (λ_ i0 _=>H.n-(intOf i0).toNat)
 case atStart=>exact⟨0,Qxz _,rfl,rfl,E⟩
 clear E;obtain⟨j,hj,rfl,rfl,E⟩:=hrel;obtain⟨S,z1,T,c1,l2,hb,A,-,-⟩:=HL.out wr E;by_cases ao:j<H.n
 .obtain⟨b2,o2,a2,b8,y0,y1,y2,y3⟩:=T.hds j ao;have qj:(0:Int)<=(j:Int):=by omega
  rw[a2] at z1;have r0:=Qqq c1;have r1:=Qqq z1;have r2:=Qqq y1;have r3:=Qqq y2;have be:Hid (∀b c,sp H.z j=b->((H.z j).b==(H.z j).l)=c->sp H.z (j+1)=(b&&c)):=λ_ _ h1 x=>Sn h1 x;clear a2 T y0 y1 y2 y3
  generalize (H.z j).l=WN at *
  generalize (H.z j).b=GT at *
  cases h1:sp H.z j
  .have y:Hid (sp H.z (j+1)=false):=be.out _ _ h1 rfl;clear be h1;go_wp2_with fail;refine Qxq (by kernel_rfl) (by kernel_rfl) ?_
   repeat(go_big_quiet_step(fail))
   refine Qqz ?_;intro _ am;obtain⟨⟨dq,a7⟩,U⟩:=am;subst U;clear r0 r1 r2 r3;go_wp2_with fail;go_roundw
   case rel=>exact⟨j+1,by omega,by go_num,by rw[y.out],E.trans ((Qxx _ _ _).mono E.size)⟩
   case measure=>simp[intOf];omega
  cases x:(GT==WN)
  .have y:Hid (sp H.z (j+1)=false):=be.out _ _ h1 x;clear be h1;go_wp2_with fail;refine Qxq (by kernel_rfl) (by kernel_rfl) ?_
   repeat(go_big_quiet_step(fail))
   refine Qqz ?_;intro _ am;obtain⟨⟨dq,a7⟩,U⟩:=am;subst U;clear r0 r1 r2 r3;go_wp2_with fail;go_roundw
   case rel=>exact⟨j+1,by omega,by go_num,by rw[y.out],E.trans ((Qxx _ _ _).mono E.size)⟩
   case measure=>simp[intOf];omega
  have y:Hid (sp H.z (j+1)=true):=be.out _ _ h1 x;clear be h1;go_wp2_with fail;refine Qxq (by kernel_rfl) (by kernel_rfl) ?_
  repeat(go_big_quiet_step(fail))
  refine Qqz ?_;intro _ am;obtain⟨⟨dq,a7⟩,U⟩:=am;subst U;clear r0 r1 r2 r3;go_wp2_with fail;go_roundw
  case rel=>exact⟨j+1,by omega,by go_num,by rw[y.out],E.trans ((Qxx _ _ _).mono E.size)⟩
  case measure=>simp[intOf];omega
 have eo:j=H.n:=by omega
 subst eo;cases hN:sp H.z H.n
 .have bt:Hid (cg s i=aw H.n (λj=>cp M (H.z j) (keptS s.hs.z i j s.hs.n))):=by show cg s i=_;rw[HE.out,hN,Bool.and_false,Bool.false_or]
  clear hN HE;go_wp2_with fail;clear S z1 T c1 l2 hb A
  go_loopw [10] (λi0 t=>∃k:Nat,k<=H.n/\i0 = .int .i64 k/\(∀j,j<k->cp M (H.z j) (keptS s.hs.z i j s.hs.n)=false)/\Below W0.heap.size W0 t) (λi0 _=>H.n-(intOf i0).toNat)
  case atStart=>exact⟨0,Qxz _,rfl,λj hj=>absurd hj (Qzq _),E⟩
  clear E;obtain⟨j,hj,rfl,aa,E⟩:=hrel;have HM:=hid aa;clear aa;obtain⟨S,z1,T,c1,l2,hb,A,ai,c2⟩:=HL.out wr E;by_cases ao:j<H.n;rotate_left
  .have HA:Hid (cg s i=false):=by show cg s i=false;rw[bt.out];exact cu λj' ea=>HM.out j' (by omega)
   clear S ai c2 A T;go_wp2_with fail;go_roundw
   case rel=>exact⟨i+1,by omega,by go_num,zi HN.out HA.out,E⟩
   case measure=>simp[intOf];omega
  obtain⟨b2,o2,a2,b8,y0,y1,y2,y3⟩:=T.hds j ao;have qj:(0:Int)<=(j:Int):=by omega
  obtain⟨k1,k2,k3⟩:=de.out j ao;have Y:Hid (cp M (H.z j) (keptS s.hs.z i j s.hs.n)=true->jb p s=false):=λh=>Ki J (by rw[bt.out];exact du ao h);have HU:Hid (cp M (H.z j) (keptS s.hs.z i j s.hs.n)=false->∀j',j'<j+1->cp M (H.z j') (keptS s.hs.z i j' s.hs.n)=false):=λh=>zi HM.out h;rw[a2] at z1;have cx:Hid (∀t,Below wr.heap.size wr t->Calls prog 160 #[.slice s.hs.a s.hs.n s.hs.c,.int .i64 i,.int .i64 j] t λe w'=>e = .returned (.int .i64 (keptS s.hs.z i j s.hs.n))/\w'=t):=λt h=>L4 s.hs i j t (ai.below h) HF.out.hold;have r0:=Qqq c1;have r1:=Qqq z1;have r2:=Qqq y0;have r3:=Qqq y1;have r4:=Qqq y2;have r5:=Qqq y3;have r6:=Qqq c2;clear a2 T y0 y1 y2 y3 ai c2 S HM A
  generalize keptS s.hs.z i j s.hs.n=D at *
  generalize H.z j=m at *
  go_wp2_with fail;refine En (λw'=>∃p:Regrown,w'=grow (redrawn wr p.d) p.os) (List.range 13) [13,14] [(false,15),(false,16)] (Qqx (brf.drew)) ?_;rw[show List.range 13=[0,1,2,3,4,5,6,7,8,9,10,11,12] from rfl];simp only[dw,Qyq,Xqq,Qyx,Qyz,Xqz,Xqx]
  repeat(go_big_quiet_step(fail))
  refine Qqz ?_;refine⟨λj v t=>match j with|13=>v = .int .i64 D|14=>∃B,v = .pointer (some ⟨B,0,none⟩)/\wr.heap.size<=B/\Blk t B 68 4 (λ_ => .int .i64 0)|_=>True,Qjx ⟨?m13,Qjx ⟨?m14,Qjq _⟩⟩,Qjx ⟨?s13,Qjx ⟨?s14,Qjq _⟩⟩,?done⟩
  case m13=>intro v w w' _ h;exact h
  case m14=>intro v w w' E h;obtain⟨B,h1,x,h3⟩:=h;exact⟨B,h1,x,h3.below E⟩
  case s13 =>
   intro V t K hS hd hK;obtain⟨pp,rfl⟩:=hS;refine ay 13 rfl ?_;simp only[ap,bu,Qvz,Qwq,Qvx,Act.put,Qvq,Qwx,Qwz] at hK ⊢;go_wp2_with fail;refine(cx.out _ (Qxx _ _ _)).mono ?_;rintro e w' ⟨rfl,rfl⟩;go_wp2_with fail;exact hK _ _ ⟨pp,rfl⟩ brf rfl
  case s14 =>
   intro V t K hS hd hK;have hX:=af hS;refine ay 14 rfl ?_;simp only[ap,bu,Qvz,Qwq,Qvx,Act.put,Qvq,Qwx,Qwz] at hK ⊢;go_wp2_with fail;exact hK _ _ (Qqx (hX.alloc hX.size _)) (brf.alloc nlr _) ⟨t.heap.size,rfl,hX.size,(Blk.mk' (cur:=#[.int .i64 0,.int .i64 0,.int .i64 0,.int .i64 0]) rfl rfl).congr (λj hj=>by match j,hj with|0,_=>rfl|1,_=>rfl|2,_=>rfl|3,_=>rfl)⟩
  case done =>
   intro V t hS hD;have bn:V 13 = .int .i64 D:=hD 13 (by simp);have au:∃B,V 14 = .pointer (some ⟨B,0,none⟩)/\wr.heap.size<=B/\Blk t B 68 4 (λ_ => .int .i64 0):=hD 14 (by simp);obtain⟨B4,au,bv,W⟩:=au;have hX:=af hS;clear hS hD r0 r1 r2 r3 r4 r5 r6;have co:=W.lt;have f0:=W.frozen 0;have f1:=W.frozen 1;have f2:=W.frozen 2;have f3:=W.frozen 3;have e0:=W.k 0;have e1:=W.k 1;have e2:=W.k 2;have e3:=W.k 3;simp only[ap,bu,Qvz,Qwq,Qvx,Act.put,Qvq,Qwx,Qwz,bn,au];refine dc 15 (by decide) ?_;simp only[Qyq,Xqq,Qyx,Qyz];go_wp2_with fail;obtain⟨W5,bq,ar,ad⟩:=Jt W hX bv m;rw[bq];refine⟨Qqx ar,?_⟩;refine dc 16 (by decide) ?_;simp only[Qyq,Xqq,Qyx,Qyz];go_wp2_with fail;refine⟨Qqx ar,?_⟩;refine NoPanic.normal ?_;have av:=E.trans (ar.mono E.size);have t0:W5.cell? ⟨B4,0,none⟩=some (.int .i64 m.o):=ad.cell (j:=0) (by simp);have t1:W5.cell? ⟨B4,1,none⟩=some (.int .i64 m.l):=ad.cell (j:=1) (by simp);have t2:W5.cell? ⟨B4,2,none⟩=some (.int .i64 m.b):=ad.cell (j:=2) (by simp);have t3:W5.cell? ⟨B4,3,none⟩=some (.int .i64 m.n):=ad.cell (j:=3) (by simp);have ep:=ad.lt;clear ar bq ad hX W f0 f1 f2 f3 e0 e1 e2 e3 bn au co bv z1 c1 l2 hb b8 E;obtain⟨S,z1,T,c1,l2,hb,A,ai,c2⟩:=HL.out W5 av;clear T ai c2 z1;have q:M=0\/M=1\/M=2:=by omega
   have P:Hid (∀b,M=0->(m.b+m.n+D==0)=b->cp M m D = !b):=λb h x=>by rw[h,wL0 k1 k2 k3,x]
   have Q:Hid (∀b,M=1->(m.b+m.n+D==m.l)=b->cp M m D = !b):=λb h x=>by rw[h,wL1,x]
   have L:Hid (∀b c,M=2->(m.b+m.n+D==m.l)=b->(D==0)=c->cp M m D=(!b || !c)):=λb c h x h3=>by rw[h,wL2,x,h3]
   generalize cp M m D=WL at *
   rcases q with q|q|q
   .cases x:(m.b+m.n+D==0)
    .have y:Hid (jb p s=false):=Y.out (P.out _ q x);have n2:(m.b+m.n+D !=0)=true:=by rw[bne,x];rfl
     rw[q] at S;clear P Q L Y HU q;go_wp2_with fail;go_ret;exact⟨by rw[y.out];rfl,A⟩
    have y:=HU.out (P.out _ q x);have n2:(m.b+m.n+D !=0)=false:=by rw[bne,x];rfl
    have ae:Hid _:=y;rw[q] at S;clear P Q L Y HU q y;go_wp2_with fail;go_roundw
    case rel=>exact⟨j+1,by omega,by go_num,ae.out,av⟩
    case measure=>simp[intOf];omega
   .cases x:(m.b+m.n+D==m.l)
    .have y:Hid (jb p s=false):=Y.out (Q.out _ q x);have n2:(m.b+m.n+D !=m.l)=true:=by rw[bne,x];rfl
     rw[q] at S;clear P Q L Y HU q;go_wp2_with fail;go_ret;exact⟨by rw[y.out];rfl,A⟩
    have y:=HU.out (Q.out _ q x);have n2:(m.b+m.n+D !=m.l)=false:=by rw[bne,x];rfl
    have ae:Hid _:=y;rw[q] at S;clear P Q L Y HU q y;go_wp2_with fail;go_roundw
    case rel=>exact⟨j+1,by omega,by go_num,ae.out,av⟩
    case measure=>simp[intOf];omega
   cases x:(m.b+m.n+D==m.l)
   .have y:Hid (jb p s=false):=Y.out (L.out _ _ q x rfl);have n2:(m.b+m.n+D !=m.l)=true:=by rw[bne,x];rfl
    rw[q] at S;clear P Q L Y HU q;go_wp2_with fail;go_ret;exact⟨by rw[y.out];rfl,A⟩
   cases h3:(D==0)
   .have y:Hid (jb p s=false):=Y.out (L.out _ _ q x h3);have n2:(m.b+m.n+D !=m.l)=false:=by rw[bne,x];rfl
    have n3:(D !=0)=true:=by rw[bne,h3];rfl
    rw[q] at S;clear P Q L Y HU q;go_wp2_with fail;go_ret;exact⟨by rw[y.out];rfl,A⟩
   have y:=HU.out (L.out _ _ q x h3);have n2:(m.b+m.n+D !=m.l)=false:=by rw[bne,x];rfl
   have n3:(D !=0)=false:=by rw[bne,h3];rfl
   have ae:Hid _:=y;rw[q] at S;clear P Q L Y HU q y;go_wp2_with fail;go_roundw
   case rel=>exact⟨j+1,by omega,by go_num,ae.out,av⟩
   case measure=>simp[intOf];omega
 cases ct:(M==1);rotate_left
 .have y:Hid (jb p s=false):=Ki J (by rw[HE.out,hN,ct];rfl);clear HE;go_wp2_with fail;go_ret;exact⟨by rw[y.out];rfl,A⟩
 have bt:Hid (cg s i=aw H.n (λj=>cp M (H.z j) (keptS s.hs.z i j s.hs.n))):=by show cg s i=_;rw[HE.out,ct,Bool.false_and,Bool.false_or]
 clear hN HE;go_wp2_with fail;clear ct;clear S z1 T c1 l2 hb A
 go_loopw [10] (λi0 t=>∃k:Nat,k<=H.n/\i0 = .int .i64 k/\(∀j,j<k->cp M (H.z j) (keptS s.hs.z i j s.hs.n)=false)/\Below W0.heap.size W0 t) (λi0 _=>H.n-(intOf i0).toNat)
 case atStart=>exact⟨0,Qxz _,rfl,λj hj=>absurd hj (Qzq _),E⟩
 clear E;obtain⟨j,hj,rfl,aa,E⟩:=hrel;have HM:=hid aa;clear aa;obtain⟨S,z1,T,c1,l2,hb,A,ai,c2⟩:=HL.out wr E;by_cases ao:j<H.n;rotate_left
 .have HA:Hid (cg s i=false):=by show cg s i=false;rw[bt.out];exact cu λj' ea=>HM.out j' (by omega)
  clear S ai c2 A T;go_wp2_with fail;go_roundw
  case rel=>exact⟨i+1,by omega,by go_num,zi HN.out HA.out,E⟩
  case measure=>simp[intOf];omega
 obtain⟨b2,o2,a2,b8,y0,y1,y2,y3⟩:=T.hds j ao;have qj:(0:Int)<=(j:Int):=by omega
 obtain⟨k1,k2,k3⟩:=de.out j ao;have Y:Hid (cp M (H.z j) (keptS s.hs.z i j s.hs.n)=true->jb p s=false):=λh=>Ki J (by rw[bt.out];exact du ao h);have HU:Hid (cp M (H.z j) (keptS s.hs.z i j s.hs.n)=false->∀j',j'<j+1->cp M (H.z j') (keptS s.hs.z i j' s.hs.n)=false):=λh=>zi HM.out h;rw[a2] at z1;have cx:Hid (∀t,Below wr.heap.size wr t->Calls prog 160 #[.slice s.hs.a s.hs.n s.hs.c,.int .i64 i,.int .i64 j] t λe w'=>e = .returned (.int .i64 (keptS s.hs.z i j s.hs.n))/\w'=t):=λt h=>L4 s.hs i j t (ai.below h) HF.out.hold;have r0:=Qqq c1;have r1:=Qqq z1;have r2:=Qqq y0;have r3:=Qqq y1;have r4:=Qqq y2;have r5:=Qqq y3;have r6:=Qqq c2;clear a2 T y0 y1 y2 y3 ai c2 S HM A
 generalize keptS s.hs.z i j s.hs.n=D at *
 generalize H.z j=m at *
 go_wp2_with fail;refine En (λw'=>∃p:Regrown,w'=grow (redrawn wr p.d) p.os) (List.range 13) [13,14] [(false,15),(false,16)] (Qqx (brf.drew)) ?_;rw[show List.range 13=[0,1,2,3,4,5,6,7,8,9,10,11,12] from rfl];simp only[dw,Qyq,Xqq,Qyx,Qyz,Xqz,Xqx]
 repeat(go_big_quiet_step(fail))
 refine Qqz ?_;refine⟨λj v t=>match j with|13=>v = .int .i64 D|14=>∃B,v = .pointer (some ⟨B,0,none⟩)/\wr.heap.size<=B/\Blk t B 68 4 (λ_ => .int .i64 0)|_=>True,Qjx ⟨?m13,Qjx ⟨?m14,Qjq _⟩⟩,Qjx ⟨?s13,Qjx ⟨?s14,Qjq _⟩⟩,?done⟩
 case m13=>intro v w w' _ h;exact h
 case m14=>intro v w w' E h;obtain⟨B,h1,x,h3⟩:=h;exact⟨B,h1,x,h3.below E⟩
 case s13 =>
  intro V t K hS hd hK;obtain⟨pp,rfl⟩:=hS;refine ay 13 rfl ?_;simp only[ap,bu,Qvz,Qwq,Qvx,Act.put,Qvq,Qwx,Qwz] at hK ⊢;go_wp2_with fail;refine(cx.out _ (Qxx _ _ _)).mono ?_;rintro e w' ⟨rfl,rfl⟩;go_wp2_with fail;exact hK _ _ ⟨pp,rfl⟩ brf rfl
 case s14 =>
  intro V t K hS hd hK;have hX:=af hS;refine ay 14 rfl ?_;simp only[ap,bu,Qvz,Qwq,Qvx,Act.put,Qvq,Qwx,Qwz] at hK ⊢;go_wp2_with fail;exact hK _ _ (Qqx (hX.alloc hX.size _)) (brf.alloc nlr _) ⟨t.heap.size,rfl,hX.size,(Blk.mk' (cur:=#[.int .i64 0,.int .i64 0,.int .i64 0,.int .i64 0]) rfl rfl).congr (λj hj=>by match j,hj with|0,_=>rfl|1,_=>rfl|2,_=>rfl|3,_=>rfl)⟩
 case done =>
  intro V t hS hD;have bn:V 13 = .int .i64 D:=hD 13 (by simp);have au:∃B,V 14 = .pointer (some ⟨B,0,none⟩)/\wr.heap.size<=B/\Blk t B 68 4 (λ_ => .int .i64 0):=hD 14 (by simp);obtain⟨B4,au,bv,W⟩:=au;have hX:=af hS;clear hS hD r0 r1 r2 r3 r4 r5 r6;have co:=W.lt;have f0:=W.frozen 0;have f1:=W.frozen 1;have f2:=W.frozen 2;have f3:=W.frozen 3;have e0:=W.k 0;have e1:=W.k 1;have e2:=W.k 2;have e3:=W.k 3;simp only[ap,bu,Qvz,Qwq,Qvx,Act.put,Qvq,Qwx,Qwz,bn,au];refine dc 15 (by decide) ?_;simp only[Qyq,Xqq,Qyx,Qyz];go_wp2_with fail;obtain⟨W5,bq,ar,ad⟩:=Jt W hX bv m;rw[bq];refine⟨Qqx ar,?_⟩;refine dc 16 (by decide) ?_;simp only[Qyq,Xqq,Qyx,Qyz];go_wp2_with fail;refine⟨Qqx ar,?_⟩;refine NoPanic.normal ?_;have av:=E.trans (ar.mono E.size);have t0:W5.cell? ⟨B4,0,none⟩=some (.int .i64 m.o):=ad.cell (j:=0) (by simp);have t1:W5.cell? ⟨B4,1,none⟩=some (.int .i64 m.l):=ad.cell (j:=1) (by simp);have t2:W5.cell? ⟨B4,2,none⟩=some (.int .i64 m.b):=ad.cell (j:=2) (by simp);have t3:W5.cell? ⟨B4,3,none⟩=some (.int .i64 m.n):=ad.cell (j:=3) (by simp);have ep:=ad.lt;clear ar bq ad hX W f0 f1 f2 f3 e0 e1 e2 e3 bn au co bv z1 c1 l2 hb b8 E;obtain⟨S,z1,T,c1,l2,hb,A,ai,c2⟩:=HL.out W5 av;clear T ai c2 z1;have q:M=0\/M=1\/M=2:=by omega
  have P:Hid (∀b,M=0->(m.b+m.n+D==0)=b->cp M m D = !b):=λb h x=>by rw[h,wL0 k1 k2 k3,x]
  have Q:Hid (∀b,M=1->(m.b+m.n+D==m.l)=b->cp M m D = !b):=λb h x=>by rw[h,wL1,x]
  have L:Hid (∀b c,M=2->(m.b+m.n+D==m.l)=b->(D==0)=c->cp M m D=(!b || !c)):=λb c h x h3=>by rw[h,wL2,x,h3]
  generalize cp M m D=WL at *
  rcases q with q|q|q
  .cases x:(m.b+m.n+D==0)
   .have y:Hid (jb p s=false):=Y.out (P.out _ q x);have n2:(m.b+m.n+D !=0)=true:=by rw[bne,x];rfl
    rw[q] at S;clear P Q L Y HU q;go_wp2_with fail;go_ret;exact⟨by rw[y.out];rfl,A⟩
   have y:=HU.out (P.out _ q x);have n2:(m.b+m.n+D !=0)=false:=by rw[bne,x];rfl
   have ae:Hid _:=y;rw[q] at S;clear P Q L Y HU q y;go_wp2_with fail;go_roundw
   case rel=>exact⟨j+1,by omega,by go_num,ae.out,av⟩
   case measure=>simp[intOf];omega
  .cases x:(m.b+m.n+D==m.l)
   .have y:Hid (jb p s=false):=Y.out (Q.out _ q x);have n2:(m.b+m.n+D !=m.l)=true:=by rw[bne,x];rfl
    rw[q] at S;clear P Q L Y HU q;go_wp2_with fail;go_ret;exact⟨by rw[y.out];rfl,A⟩
   have y:=HU.out (Q.out _ q x);have n2:(m.b+m.n+D !=m.l)=false:=by rw[bne,x];rfl
   have ae:Hid _:=y;rw[q] at S;clear P Q L Y HU q y;go_wp2_with fail;go_roundw
   case rel=>exact⟨j+1,by omega,by go_num,ae.out,av⟩
   case measure=>simp[intOf];omega
  cases x:(m.b+m.n+D==m.l)
  .have y:Hid (jb p s=false):=Y.out (L.out _ _ q x rfl);have n2:(m.b+m.n+D !=m.l)=true:=by rw[bne,x];rfl
   rw[q] at S;clear P Q L Y HU q;go_wp2_with fail;go_ret;exact⟨by rw[y.out];rfl,A⟩
  cases h3:(D==0)
  .have y:Hid (jb p s=false):=Y.out (L.out _ _ q x h3);have n2:(m.b+m.n+D !=m.l)=false:=by rw[bne,x];rfl
   have n3:(D !=0)=true:=by rw[bne,h3];rfl
   rw[q] at S;clear P Q L Y HU q;go_wp2_with fail;go_ret;exact⟨by rw[y.out];rfl,A⟩
  have y:=HU.out (L.out _ _ q x h3);have n2:(m.b+m.n+D !=m.l)=false:=by rw[bne,x];rfl
  have n3:(D !=0)=false:=by rw[bne,h3];rfl
  have ae:Hid _:=y;rw[q] at S;clear P Q L Y HU q y;go_wp2_with fail;go_roundw
  case rel=>exact⟨j+1,by omega,by go_num,ae.out,av⟩
  case measure=>simp[intOf];omega
structure ae(s t:St):Prop where
 on:s.on.n=t.on.n/\∀i,i<s.on.n->(s.on.r i).n=(t.on.r i).n/\∀j,j<(s.on.r i).n->(s.on.r i).z j=(t.on.r i).z j
 os:s.os.n=t.os.n/\∀i,i<s.os.n->(s.os.z i).k=(t.os.z i).k/\(s.os.z i).ls.n=(t.os.z i).ls.n/\∀j,j<(s.os.z i).ls.n->(s.os.z i).ls.z j=(t.os.z i).ls.z j
 hs:s.hs.n=t.hs.n/\∀j,j<s.hs.n->s.hs.z j=t.hs.z j
 ms:s.ms.n=t.ms.n/\∀j,j<s.ms.n->s.ms.z j=t.ms.z j
 si:s.si.n=t.si.n/\∀j,j<s.si.n->s.si.z j=t.si.z j
 so:s.so.n=t.so.n/\∀j,j<s.so.n->s.so.z j=t.so.z j
 sf:s.sf.n=t.sf.n/\∀j,j<s.sf.n->s.sf.z j=t.sf.z j
def Boxed(w:World)(B:Nat)(s:St):Prop :=
 B<w.heap.size/\w.cell? ⟨B,0,none⟩=some (.slice s.on.a s.on.n s.on.c)/\w.cell? ⟨B,1,none⟩=some (.slice s.os.a s.os.n s.os.c)/\w.cell? ⟨B,2,none⟩=some (.slice s.hs.a s.hs.n s.hs.c) /\
  w.cell? ⟨B,3,none⟩=some (.slice s.ms.a s.ms.n s.ms.c)/\w.cell? ⟨B,4,none⟩=some (.slice s.si.a s.si.n s.si.c)/\w.cell? ⟨B,5,none⟩=some (.slice s.so.a s.so.n s.so.c)/\w.cell? ⟨B,6,none⟩=some (.slice s.sf.a s.sf.n s.sf.c)
theorem Boxed.of{B:Nat}(h:Blk w B e 7 (λj=>s.cells.getD j default)):Boxed w B s :=
 ⟨h.lt,h.k 0,h.k 1,h.k 2,h.k 3,h.k 4,h.k 5,h.k 6⟩
theorem Ha{A:World}{B:Nat}(d:Blk w B e 2 f)(i:Below A.heap.size A w)(c:A.heap.size<=B)(k:Int)(v:Value):
  ∃W,(w.setCell ⟨B,0,none⟩ (.int .i64 k)).setCell ⟨B,1,none⟩ v=W/\Below A.heap.size A W/\Blk W B e 2 (λj=>(#[.int .i64 k,v]:Array Value).getD j default)/\∀g t n f',g≠B->Blk w g t n f'->Blk W g t n f' :=
 ⟨_,rfl,(i.setCell (p:=⟨B,0,none⟩) c _).setCell (p:=⟨B,1,none⟩) c _,((d.set 0 _).set 1 _).congr (λj l=>by match j,l with|0,_=>rfl|1,_=>rfl),
  λg t n f' b h=>(h.other (a:=⟨B,0,none⟩) b _).other (a:=⟨B,1,none⟩) b _⟩
theorem Nw(s t:St)(w:World)(hs:s.At w)(ht:t.At w)(h:ae s t)(ds:s.os.n<=1000)(dq:s.ms.n<=1000)(bl:∀i,i<s.os.n->(s.os.z i).ls.n<=1000):
  Calls prog 11 #[s.val,t.val] w λe w'=>e = .returned (.bool true)/\Below w.heap.size w w':=by
 obtain⟨T,hW,ar,X0,Y0⟩:∃W,((w.alloc (.cells s.cells 31)).alloc (.cells t.cells 31))=W/\Below w.heap.size w W/\Blk W w.heap.size 31 7 (λj=>s.cells.getD j default)/\Blk W (w.heap.size+1) 31 7 (λj=>t.cells.getD j default):=
  ⟨_,rfl,j8 _ _ _,(Blk.mk' rfl rfl).alloc _,Blk.mk' (by simp) rfl⟩
 have HC:Hid (∀b,Below T.heap.size T b->Boxed b w.heap.size s/\Boxed b (w.heap.size+1) t/\s.At b/\t.At b/\Below w.heap.size w b):=λb h=>⟨Boxed.of (X0.below h),Boxed.of (Y0.below h),(hs.below ar).below h,(ht.below ar).below h,ar.trans (h.mono ar.size)⟩;have HW:Hid ((w.alloc (.cells #[.slice s.on.a s.on.n s.on.c,.slice s.os.a s.os.n s.os.c,.slice s.hs.a s.hs.n s.hs.c,.slice s.ms.a s.ms.n s.ms.c,.slice s.si.a s.si.n s.si.c,.slice s.so.a s.so.n s.so.c,.slice s.sf.a s.sf.n s.sf.c] 31)).alloc (.cells #[.slice t.on.a t.on.n t.on.c,.slice t.os.a t.os.n t.os.c,.slice t.hs.a t.hs.n t.hs.c,.slice t.ms.a t.ms.n t.ms.c,.slice t.si.a t.si.n t.si.c,.slice t.so.a t.so.n t.so.c,.slice t.sf.a t.sf.n t.sf.c] 31)=T):=hW;have y:=hid h;have dt:=hs.os.le;have bz:=hs.os.cap;have dv:=hs.ms.le;have bo:=hs.ms.cap;have dk:=ht.os.le;have bf:=ht.os.cap;have di:=ht.ms.le;have a9:=ht.ms.cap;unfold maxLen at bz bo bf a9;have n1:((s.os.n:Int) !=(t.os.n:Int))=false:=by rw[h.os.1];simp
 have n2:((s.ms.n:Int) !=(t.ms.n:Int))=false:=by rw[h.ms.1];simp
 have cp:=hid bl;clear hW X0 Y0 hs ht h bl;unfold St.val;go_enter func11,ntmps11;go_wp2_with fail;rw[HW.out];obtain⟨X,Y,l,f,o⟩:=HC.out T brf;refine(Q8 s.on t.on T l.on f.on y.out.on.1 y.out.on.2).mono ?_;rintro e w1 ⟨rfl,m⟩;clear X Y l f o HW;obtain⟨⟨l1,E,c1,c2,c3,c4,c5,c6⟩,⟨l2,A,u,D,M,F,J,H⟩,l,f,o⟩:=HC.out w1 m;go_wp2_with fail;refine(Pj s.hs t.hs w1 l.hs f.hs y.out.hs.1 y.out.hs.2).mono ?_;rintro e w2 ⟨rfl,q⟩;have m:=m.trans (q.mono m.size);clear l1 E c1 c2 c3 c4 c5 c6 l2 A u D M F J H l f o q;obtain⟨⟨l1,E,c1,c2,c3,c4,c5,c6⟩,⟨l2,A,u,D,M,F,J,H⟩,l,f,o⟩:=HC.out w2 m;go_wp2_with fail;refine(Ad s.si t.si w2 l.si f.si y.out.si.1 y.out.si.2).mono ?_;rintro e w3 ⟨rfl,q⟩;have m:=m.trans (q.mono m.size);clear l1 E c1 c2 c3 c4 c5 c6 l2 A u D M F J H l f o q;obtain⟨⟨l1,E,c1,c2,c3,c4,c5,c6⟩,⟨l2,A,u,D,M,F,J,H⟩,l,f,o⟩:=HC.out w3 m;go_wp2_with fail;refine(Ad s.so t.so w3 l.so f.so y.out.so.1 y.out.so.2).mono ?_;rintro e w4 ⟨rfl,q⟩;have m:=m.trans (q.mono m.size);clear l1 E c1 c2 c3 c4 c5 c6 l2 A u D M F J H l f o q;obtain⟨⟨l1,E,c1,c2,c3,c4,c5,c6⟩,⟨l2,A,u,D,M,F,J,H⟩,l,f,o⟩:=HC.out w4 m;go_wp2_with fail;refine(Ad s.sf t.sf w4 l.sf f.sf y.out.sf.1 y.out.sf.2).mono ?_;rintro e w5 ⟨rfl,q⟩;have m:=m.trans (q.mono m.size);clear l1 E c1 c2 c3 c4 c5 c6 l2 A u D M F J H l f o q;go_wp2_with fail
 go_loopw [5] (λi b=>∃k:Nat,k<=s.os.n/\i = .int .i64 k/\Below T.heap.size T b) (λi _=>s.os.n-(intOf i).toNat)
 case atStart=>exact⟨0,Qxz _,rfl,m⟩
 clear m;obtain⟨i,hi,rfl,m⟩:=hrel;obtain⟨⟨l1,E,c1,c2,c3,c4,c5,c6⟩,⟨l2,A,u,D,M,F,J,H⟩,l,f,o⟩:=HC.out wr m;by_cases ah:i<s.os.n;rotate_left
 .go_wp2_with fail;clear l1 E c1 c2 c3 c4 c5 c6 l2 A u D M F J H l f o hi ah
  go_loopw [9] (λi0 b=>∃k:Nat,k<=s.ms.n/\i0 = .int .i64 k/\Below T.heap.size T b) (λi0 _=>s.ms.n-(intOf i0).toNat)
  case atStart=>exact⟨0,Qxz _,rfl,m⟩
  clear m;obtain⟨j,hj,rfl,m⟩:=hrel;obtain⟨⟨l1,E,c1,c2,c3,c4,c5,c6⟩,⟨l2,A,u,D,M,F,J,H⟩,l,f,o⟩:=HC.out wr m;by_cases Q:j<s.ms.n
  .have al:j<t.ms.n:=by rw[<-y.out.ms.1];exact Q
   have qj:(0:Int)<=(j:Int):=by omega
   obtain⟨b3,o3,ag,b9,y0,y1,y2,y3⟩:=l.ms.hds j Q;obtain⟨b4,o4,ai,b8,x0,x1,x2,x3⟩:=f.ms.hds j al;rw[<-y.out.ms.2 j Q] at x0 x1 x2 x3;rw[ag] at c3;rw[ai] at M
   generalize s.ms.z j=Z at *
   clear ag ai l f E c1 c2 c4 c5 c6 A u D F J H;go_wp2_with fail
   go_quiet (fail)
   go_wp2_with fail;go_roundw
   case rel=>exact⟨j+1,by omega,by go_num,below_drewN m _⟩
   case measure=>simp[intOf];omega
  clear l f;go_wp2_with fail;go_ret;exact⟨rfl,o⟩
 have b0:i<t.os.n:=by rw[<-y.out.os.1];exact ah
 have qi:(0:Int)<=(i:Int):=by omega
 obtain⟨b1,o1,bh,dp,y0,y1,hl⟩:=l.os.ods i ah;obtain⟨b2,o2,bj,dn,x0,x1,hm⟩:=f.os.ods i b0;obtain⟨e1,e2,e3⟩:=y.out.os.2 i ah;have du:=cp.out i ah;rw[bh] at c1;rw[bj] at u;have r0:=Qqq c1;have r1:=Qqq u;have r2:=Qqq y0;have r3:=Qqq y1;rw[<-e1] at x0;have r4:=Qqq x0;have r5:=Qqq x1;have a2:=qa2 hl hm;have HE:=qa2 e2 e3;clear bh bj hl hm e1 e2 e3 E c2 c3 c4 c5 c6 A D M F J H l f y0 y1 x0 x1 u
 generalize (s.os.z i).k=KD at *
 generalize (s.os.z i).ls=L at *
 generalize (t.os.z i).ls=LT at *
 go_wp2_with fail;refine Mg (λw'=>∃p:Regrown,w'=grow (redrawn wr p.d) p.os) (List.range 10) [10,11] [(false,12),(false,13)] (by kernel_rfl) (by kernel_rfl) (by kernel_rfl) (by kernel_rfl) (by kernel_rfl) (by kernel_rfl) (by kernel_rfl) (by kernel_rfl) (Qqx (brf.drew)) ?_;rw[show List.range 10=[0,1,2,3,4,5,6,7,8,9] from rfl];simp only[dw,Qyq,Xqq,Qyx,Qyz,Xqz,Xqx]
 repeat(go_big_quiet_step(fail))
 refine Qqz ?_;refine⟨λj v g b=>∃B,g=[B]/\v = .pointer (some ⟨B,0,none⟩)/\wr.heap.size<=B/\Blk b B 66 2 (λj=>(#[.int .i64 0,.slice .none 0 0]:Array Value).getD j default),Qjx ⟨?zm,Qjx ⟨?zm2,Qjq _⟩⟩,Qjx ⟨?zl,Qjx ⟨?zl2,Qjq _⟩⟩,Qjx ⟨?zs10,Qjx ⟨?zs11,Qjq _⟩⟩,?zdone⟩
 case zm|zm2=>intro v g w w' m h;obtain⟨B,h0,h1,h2,h3⟩:=h;exact⟨B,h0,h1,h2,h3.below m⟩
 case zl|zl2=>intro v g w h;obtain⟨B,rfl,h1,h2,h3⟩:=h;intro x hx;rw[List.mem_singleton] at hx;subst hx;exact h3.lt
 case zs10 =>
  intro V G b K hS hd hK;have U:=af hS;refine ay 10 rfl ?_;simp only[ap,bu,Qvz,Qwq,Qvx,Act.put,Qvq,Qwx,Qwz] at hK ⊢;go_wp2_with fail;exact hK _ [b.heap.size] _ (Qqx (U.alloc U.size _)) (brf.alloc nlr _) (λx hx=>by rw[List.mem_singleton] at hx;omega) ⟨b.heap.size,rfl,rfl,U.size,Blk.mk' rfl rfl⟩
 case zs11 =>
  intro V G b K hS hd hK;have U:=af hS;refine ay 11 rfl ?_;simp only[ap,bu,Qvz,Qwq,Qvx,Act.put,Qvq,Qwx,Qwz] at hK ⊢;go_wp2_with fail;exact hK _ [b.heap.size] _ (Qqx (U.alloc U.size _)) (brf.alloc nlr _) (λx hx=>by rw[List.mem_singleton] at hx;omega) ⟨b.heap.size,rfl,rfl,U.size,Blk.mk' rfl rfl⟩
 case zdone =>
  intro V G b hS hD hA;obtain⟨B6,g6,h6,m6,k6⟩:=hD 10 (by simp);obtain⟨B7,g7,h7,m7,k7⟩:=hD 11 (by simp);have bm:B6≠B7:=λe=>hA 10 (by simp) 11 (by simp) (by decide) B6 (by rw[g6];simp) (by rw[g7,e];simp);have U:=af hS;clear hS hD hA g6 g7 r0 r1 r2 r3 r4 r5;have f0:=k6.frozen 0;have f1:=k6.frozen 1;have e0:=k6.k 0;have e1:=k6.k 1;have a5:=k6.lt;simp only[ap,bu,Qvz,Qwq,Qvx,Act.put,Qvq,Qwx,Qwz,h6,h7];refine dc 12 (by decide) ?_;simp only[Qyq,Xqq,Qyx,Qyz];go_wp2_with fail;obtain⟨W5,bk,a4,bg,P⟩:=Ha k6 U m6 KD (.slice L.a L.n L.c);have k7:=P _ _ _ _ bm.symm k7;rw[bk];refine⟨Qqx a4,?_⟩;clear bk U k6 P f0 f1 e0 e1 a5 h6 h7;have f0:=k7.frozen 0;have f1:=k7.frozen 1;have e0:=k7.k 0;have e1:=k7.k 1;have a5:=k7.lt;refine dc 13 (by decide) ?_;simp only[Qyq,Xqq,Qyx,Qyz];go_wp2_with fail;obtain⟨W6,bn,aj,aq,P⟩:=Ha k7 a4 m7 KD (.slice LT.a LT.n LT.c);have au:=P _ _ _ _ bm bg;rw[bn];refine⟨Qqx aj,?_⟩;refine NoPanic.normal ?_;have bi:=m.trans (aj.mono m.size);have a7:=qa2 (a2.out.1.below aj) (a2.out.2.below aj);clear bn a4 aj k7 P f0 f1 e0 e1 a5 bg a2 m m6 m7;have HD:Hid (∀b,Below W6.heap.size W6 b->(b.cell? ⟨B6,0,none⟩=some (.int .i64 KD)/\b.cell? ⟨B6,1,none⟩=some (.slice L.a L.n L.c)/\B6<b.heap.size)/\(b.cell? ⟨B7,0,none⟩=some (.int .i64 KD)/\b.cell? ⟨B7,1,none⟩=some (.slice LT.a LT.n LT.c)/\B7<b.heap.size)/\L.At b/\LT.At b/\Below T.heap.size T b):=
   λb h=>⟨⟨(au.below h).k 0,(au.below h).k 1,(au.below h).lt⟩,⟨(aq.below h).k 0,(aq.below h).k 1,(aq.below h).lt⟩,a7.out.1.below h,a7.out.2.below h,bi.trans (h.mono bi.size)⟩
  clear au aq a7;obtain⟨⟨p0,p1,p2⟩,⟨q0,q1,q2⟩,S,r,a1⟩:=HD.out W6 brf;have dr:=S.le;have bv:=S.cap;have c8:=r.le;have bb:=r.cap;unfold maxLen at bv bb;have n3:((L.n:Int) !=(LT.n:Int))=false:=by rw[HE.out.1];simp
  clear S r a1;go_wp2_with fail;clear p0 p1 p2 q0 q1 q2
  go_loopw [8] (λi0 b=>∃k:Nat,k<=L.n/\i0 = .int .i64 k/\Below W6.heap.size W6 b) (λi0 _=>L.n-(intOf i0).toNat)
  case atStart=>exact⟨0,Qxz _,rfl,Below.refl _ _⟩
  obtain⟨j,hj,rfl,m⟩:=hrel;obtain⟨⟨p0,p1,p2⟩,⟨q0,q1,q2⟩,S,r,a1⟩:=HD.out wr m;by_cases Q:j<L.n
  .have al:j<LT.n:=by rw[<-HE.out.1];exact Q
   have qj:(0:Int)<=(j:Int):=by omega
   obtain⟨b3,o3,ag,b9,y0,y1,y2,y3⟩:=S.hds j Q;obtain⟨b4,o4,ai,b8,x0,x1,x2,x3⟩:=r.hds j al;rw[<-HE.out.2 j Q] at x0 x1 x2 x3;rw[ag] at p1;rw[ai] at q1
   generalize L.z j=Z at *
   clear ag ai S r p0 q0;go_wp2_with fail
   go_quiet (fail)
   go_wp2_with fail;go_roundw
   case rel=>exact⟨j+1,by omega,by go_num,below_drewN m _⟩
   case measure=>simp[intOf];omega
  clear S r;go_wp2_with fail;go_roundw
  case rel=>exact⟨i+1,by omega,by go_num,a1⟩
  case measure=>simp[intOf];omega
theorem Qb(h:¬ey p s.on=0):ah p s=ey p s.on:=by unfold ah;rw[if_neg h]
theorem Sx(h:ey p s.on=0)(a:gh s=true):ah p s=2:=by unfold ah;rw[if_pos h,if_pos a]
theorem Bc(h:ey p s.on=0)(b:gh s=false)(a:jh p s=true\/gu p s=true\/j9 p s=true\/fo p s=true):ah p s=1:=by
 unfold ah;rw[if_pos h,b,if_neg (by decide),if_pos (by rcases a with a|a|a|a<;>simp[a])]
theorem Ae(h:ey p s.on=0)(e:gh s=false)(d:jh p s=false)(c:gu p s=false)(a:j9 p s=false)(b:fo p s=false):ah p s=if kw p s||jf s then 7 else 0:=by
 unfold ah;rw[if_pos h,e,if_neg (by decide),d,c,a,b,if_neg (by decide)]
theorem lm(p:Pl)(s:St)(w:World)(T:p.At w)(hs:s.At w):
  Calls prog 28 #[p.val,s.val] w λe Y=>e = .returned (.int .i64 (ah p s))/\Below w.heap.size w Y:=by
 obtain⟨E,J,M,L⟩:=G9 w p s;have o:=F8 T hs M L;have V:=hid J;clear J L;unfold Pl.val St.val;go_enter func28,ntmps28;go_wp2_with fail;rw[V.out];have a:Below E.heap.size E E:=Below.refl _ _;obtain⟨X,f,c,b⟩:=o.out E a;refine(xt p s.on E f c.on).mono ?_;rintro e Q ⟨rfl,d⟩;have a:=a.trans (d.mono a.size);clear d X f c b;obtain⟨X,f,c,b⟩:=o.out Q a;by_cases F:ey p s.on=0;rotate_left
 .have S:Hid (ah p s=ey p s.on):=Qb F;go_wp2_with fail;go_ret;exact⟨by rw[S.out];rfl,b⟩
 have n:=hid F;rw[F];clear F;obtain⟨⟨l,h,i⟩,k,j,c1,c2,c3,c4,c5,c6⟩:=X;go_wp2_with fail;refine(R6 s _ c).mono ?_;rintro e w2 ⟨rfl,d⟩;have g:=a.trans (d.mono a.size);clear l h i k j c1 c2 c3 c4 c5 c6 f c b a d;have a:=g;clear g;obtain⟨X,f,c,b⟩:=o.out w2 a;cases y:gh s;rotate_left
 .have m:=hid y;clear y;go_wp2_with fail;go_ret;exact⟨by rw[Sx n.out m.out];rfl,b⟩
 have m:=hid y;clear y;obtain⟨⟨l,h,i⟩,k,j,c1,c2,c3,c4,c5,c6⟩:=X;go_wp2_with fail;refine(Pi p s _ f c).mono ?_;rintro e W ⟨rfl,d⟩;have g:=a.trans (d.mono a.size);clear l h i k j c1 c2 c3 c4 c5 c6 f c b a d;have a:=g;clear g;obtain⟨X,f,c,b⟩:=o.out W a;cases q:jh p s;rotate_left
 .have z:=hid q;clear q;go_wp2_with fail;go_ret;exact⟨by rw[Bc n.out m.out (.inl z.out)];rfl,b⟩
 have z:=hid q;clear q;obtain⟨⟨l,h,i⟩,k,j,c1,c2,c3,c4,c5,c6⟩:=X;go_wp2_with fail;refine(Qt p s _ f c).mono ?_;rintro e w4 ⟨rfl,d⟩;have g:=a.trans (d.mono a.size);clear l h i k j c1 c2 c3 c4 c5 c6 f c b a d;have a:=g;clear g;obtain⟨X,f,c,b⟩:=o.out w4 a;cases v:gu p s;rotate_left
 .have A:=hid v;clear v;go_wp2_with fail;go_ret;exact⟨by rw[Bc n.out m.out (.inr (.inl A.out))];rfl,b⟩
 have A:=hid v;clear v;obtain⟨⟨l,h,i⟩,k,j,c1,c2,c3,c4,c5,c6⟩:=X;go_wp2_with fail;refine(Ql p s _ f c).mono ?_;rintro e U ⟨rfl,d⟩;have g:=a.trans (d.mono a.size);clear l h i k j c1 c2 c3 c4 c5 c6 f c b a d;have a:=g;clear g;obtain⟨X,f,c,b⟩:=o.out U a;cases u:j9 p s;rotate_left
 .have D:=hid u;clear u;go_wp2_with fail;go_ret;exact⟨by rw[Bc n.out m.out (.inr (.inr (.inl D.out)))];rfl,b⟩
 have D:=hid u;clear u;obtain⟨⟨l,h,i⟩,k,j,c1,c2,c3,c4,c5,c6⟩:=X;go_wp2_with fail;refine(Sm p s _ f c).mono ?_;rintro e w6 ⟨rfl,d⟩;have g:=a.trans (d.mono a.size);clear l h i k j c1 c2 c3 c4 c5 c6 f c b a d;have a:=g;clear g;obtain⟨X,f,c,b⟩:=o.out w6 a;cases r:fo p s;rotate_left
 .have B:=hid r;clear r;go_wp2_with fail;go_ret;exact⟨by rw[Bc n.out m.out (.inr (.inr (.inr B.out)))];rfl,b⟩
 have B:=hid r;clear r;have K:cw p s:=formed n.out m.out z.out A.out D.out B.out;obtain⟨⟨l,h,i⟩,k,j,c1,c2,c3,c4,c5,c6⟩:=X;go_wp2_with fail;refine(M4 p s _ f c K).mono ?_;rintro e w7 ⟨rfl,d⟩;have g:=a.trans (d.mono a.size);clear l h i k j c1 c2 c3 c4 c5 c6 f c b a d;have a:=g;clear g;obtain⟨X,f,c,b⟩:=o.out w7 a;cases x:kw p s;rotate_left
 .have G:=hid x;clear x;go_wp2_with fail;go_ret;exact⟨by rw[Ae n.out m.out z.out A.out D.out B.out,G.out];rfl,b⟩
 have G:=hid x;clear x;obtain⟨⟨l,h,i⟩,k,j,c1,c2,c3,c4,c5,c6⟩:=X;go_wp2_with fail;refine(Mr p s _ c K).mono ?_;rintro e P ⟨rfl,d⟩;have g:=a.trans (d.mono a.size);clear l h i k j c1 c2 c3 c4 c5 c6 f c b a d;have a:=g;clear g;obtain⟨X,f,c,b⟩:=o.out P a;cases t:jf s
 .have H:=hid t;clear t;go_wp2_with fail;go_ret;exact⟨by rw[Ae n.out m.out z.out A.out D.out B.out,G.out,H.out];rfl,b⟩
 have H:=hid t;clear t;go_wp2_with fail;go_ret;exact⟨by rw[Ae n.out m.out z.out A.out D.out B.out,H.out,Bool.or_true];rfl,b⟩
def la(p:Pl)(s:St)(bin good:Int):Int:=if ah p s=0 then(if inB bin 0 ((p.nb:Int)-1)&&inB good 0 ((p.ns:Int)-1) then 0 else 3) else ah p s
def rq(p:Pl)(s:St)(bin good:Int):Int:=if la p s bin good=0 then ar s bin.toNat good.toNat else 0
def jj(p:Pl)(s:St)(b:Int):Nat->Int
 | 0=>0
 | k+1=>jj p s b k+(if (s.ms.z k).b=b then(s.ms.z k).n*p.zs (s.ms.z k).o.toNat else 0)
def gj(p:Pl)(s:St)(b:Nat):Int:=(p.zb b).room-ff (s.on.r b).z p.zs p.ns-jj p s b s.ms.n
def s9(p:Pl)(s:St)(bin:Int):Int:=if ah p s=0 then ui p s.on bin else ah p s
def z5(p:Pl)(s:St)(bin:Int):Int:=if s9 p s bin=0 then gj p s bin.toNat else 0
theorem L8{b:Int}{k:Nat}(h:(s.ms.z k).b=b):jj p s b (k+1)=jj p s b k+(s.ms.z k).n*p.zs (s.ms.z k).o.toNat:=by simp only[jj];rw[if_pos h]
theorem Jk{b:Int}{k:Nat}(h:¬(s.ms.z k).b=b):jj p s b (k+1)=jj p s b k:=by simp only[jj];rw[if_neg h,Int.add_zero]
theorem D0{p:Pl}{s:St}(f:cw p s)(b:Int):∀k,k<=s.ms.n->0<=jj p s b k/\jj p s b k<=1800*k
 | 0,_=>by simp[jj]
 | k+1,hk=>by
  have d:=D0 f b k (by omega);have c:=qs (f.move k (by omega));have:=Cw (a:=(s.ms.z k).n) (b:=p.zs (s.ms.z k).o.toNat) ⟨by omega,c.2.2.2.2.2⟩ (f.sh.pl.sizes _ (by omega));simp only[jj]
  split<;>omega
theorem Ht(p:Pl)(s:St)(bin good:Int)(w:World)(i:p.At w)(hs:s.At w):
  Calls prog 67 #[p.val,s.val,.int .i64 bin,.int .i64 good] w λe A=>e = .returned (.tuple #[.int .i64 (rq p s bin good),.int .i64 (la p s bin good)])/\Below w.heap.size w A:=by
 obtain⟨t,m,v,o⟩:=G9 w p s;have x:=F8 i hs v o;have y:=hid m;have F:p.nb<=maxLen:=Qzx i.leb i.capb;have G:p.ns<=maxLen:=Qzx i.les i.caps;clear m o;unfold Pl.val St.val;go_enter func67,ntmps67;go_wp2_with fail;rw[y.out];obtain⟨X,h,d,a⟩:=x.out t brf;refine(lm p s t h d).mono ?_;rintro e n ⟨rfl,z⟩;clear X h d a;obtain⟨X,h,d,a⟩:=x.out n z;obtain⟨⟨M,H,J⟩,L,K,c1,c2,c3,c4,c5,c6⟩:=X;by_cases f:ah p s=0;rotate_left
 .have c:Hid (la p s bin good=ah p s/\rq p s bin good=0):=by
   have e:la p s bin good=ah p s:=by unfold la;rw[if_neg f]
   exact⟨e,by unfold rq;rw[e,if_neg f]⟩
  go_wp2_with fail
  go_ret2
  exact⟨by rw[c.out.1,c.out.2];rfl,a⟩
 have D:Hid (au p s):=ew f;have l:=hid f;rw[f];clear f;cases j:inB bin 0 ((p.nb:Int)-1)
 .have c:Hid (la p s bin good=3/\rq p s bin good=0):=by
   have e:la p s bin good=3:=by unfold la;rw[if_pos l.out,j];rfl
   exact⟨e,by unfold rq;rw[e];rfl⟩
  go_wp2_with(go_at_call 47;refine ag (dm _ _ _ (by assumption)) ?_)
  go_ret2
  exact⟨by rw[c.out.1,c.out.2];rfl,a⟩
 cases k:inB good 0 ((p.ns:Int)-1)
 .have c:Hid (la p s bin good=3/\rq p s bin good=0):=by
   have e:la p s bin good=3:=by unfold la;rw[if_pos l.out,k,Bool.and_false];rfl
   exact⟨e,by unfold rq;rw[e];rfl⟩
  go_wp2_with(go_at_call 47;refine ag (dm _ _ _ (by assumption)) ?_)
  go_ret2
  exact⟨by rw[c.out.1,c.out.2];rfl,a⟩
 have c:Hid (la p s bin good=0/\rq p s bin good=ar s bin.toNat good.toNat):=by
  have e:la p s bin good=0:=by unfold la;rw[if_pos l.out,j,k];rfl
  exact⟨e,by unfold rq;rw[e];rfl⟩
 obtain⟨b,E⟩:=Qzz (aq j).1;obtain⟨g,B⟩:=Qzz (aq k).1;have r:b<p.nb:=by have:=(aq j).2;omega
 have q:g<p.ns:=by have:=(aq k).2;omega
 subst E B;go_wp2_with(go_at_call 47;refine ag (dm _ _ _ (by assumption)) ?_);refine(Pa p s b g n d D.out.fm r q).mono ?_;rintro e P ⟨rfl,u⟩;go_wp2_with fail
 go_ret2
 exact⟨by rw[c.out.1,c.out.2];rfl,a.trans (u.mono a.size)⟩
theorem Qa(p:Pl)(s:St)(bin:Int)(w:World)(L:p.At w)(hs:s.At w):
  Calls prog 49 #[p.val,s.val,.int .i64 bin] w λe w'=>e = .returned (.tuple #[.int .i64 (z5 p s bin),.int .i64 (s9 p s bin)])/\Below w.heap.size w w':=by
 obtain⟨F,hW,P,X0⟩:=G9 w p s;have V:=F8 L hs P X0;have HW:=hid hW;have leb:=L.leb;have capb:=L.capb;have les:=L.les;have caps:=L.caps;unfold maxLen at capb caps;clear hW X0;unfold Pl.val St.val;go_enter func49,ntmps49;go_wp2_with fail;rw[HW.out];obtain⟨X,f,c,m⟩:=V.out F brf;refine(lm p s F f c).mono ?_;rintro e w1 ⟨rfl,t⟩;clear X f c m;obtain⟨X,f,c,m⟩:=V.out w1 t;obtain⟨⟨H,D,A⟩,Q,c0,c1,c2,c3,c4,c5,c6⟩:=X;by_cases E:ah p s=0;rotate_left
 .have x:Hid (s9 p s bin=ah p s/\z5 p s bin=0):=by
   have e:s9 p s bin=ah p s:=by unfold s9;rw[if_neg E]
   exact⟨e,by unfold z5;rw[e,if_neg E]⟩
  go_wp2_with fail
  go_ret2
  exact⟨by rw[x.out.1,x.out.2];rfl,m⟩
 have q:Hid (au p s):=ew E;have H0:=hid E;rw[E];clear E;go_wp2_with fail;refine(Zb p s.on bin w1 f c.on).mono ?_;rintro e w2 ⟨rfl,af⟩;have K:=t.trans (af.mono t.size);clear af t H D A Q c0 c1 c2 c3 c4 c5 c6 f c m;obtain⟨X,f,c,m⟩:=V.out w2 K;obtain⟨⟨H,D,A⟩,Q,c0,c1,c2,c3,c4,c5,c6⟩:=X;by_cases o:ui p s.on bin=0;rotate_left
 .have x:Hid (s9 p s bin=ui p s.on bin/\z5 p s bin=0):=by
   have e:s9 p s bin=ui p s.on bin:=by unfold s9;rw[if_pos H0.out]
   exact⟨e,by unfold z5;rw[e,if_neg o]⟩
  go_wp2_with fail
  go_ret2
  exact⟨by rw[x.out.1,x.out.2];rfl,m⟩
 have J:inB bin 0 ((s.on.n:Int)-1)=true:=by
  cases hq:inB bin 0 ((s.on.n:Int)-1)
  .unfold ui at o;rw[q.out.fm.sh0,hq] at o;simp at o
  rfl
 have a9:=q.out.fm.sh.n;obtain⟨b,hb⟩:=Qzz (aq J).1;have ab:b<p.nb:=by have:=(aq J).2;omega
 have x:Hid (s9 p s bin=0/\z5 p s bin=gj p s b/\Fx p s.on bin=ff (s.on.r b).z p.zs p.ns):=by
  have e:s9 p s bin=0:=by unfold s9;rw[if_pos H0.out,o]
  exact⟨e,by unfold z5;rw[e,if_pos rfl,hb];rfl,by unfold Fx;rw[o,hb];rfl⟩
 rw[o,x.out.2.2];have b3:=vt (z:=(s.on.r b).z) (zs:=p.zs) (n:=p.ns) (λj hj=>⟨q.out.fm.sh.num b (by omega) j hj,q.out.fm.sh.pl.sizes j hj⟩) p.ns nlr;have ns3:=q.out.fm.sh.pl.ns3;have ms8:=q.out.fm.ms8;have bd:0<=(p.zb b).room/\(p.zb b).room<=1000:=by
  have:=q.out.fm.sh.pl.bins b ab;simp only[qe,Xxq,Bool.not_eq_false'] at this;exact aq this.1.1
 have TB:Hid (∀k,k<=s.ms.n->0<=jj p s b k/\jj p s b k<=1800*k):=D0 q.out.fm b;have TH:Hid (gj p s b=(p.zb b).room-ff (s.on.r b).z p.zs p.ns-jj p s b s.ms.n):=rfl;obtain⟨bb,bo,Y,aj,S,y1,y2,y3⟩:=f.bins b ab;rw[Y] at D;have b0:=c.ms.le;have ap:=c.ms.cap;unfold maxLen at ap;have HF:=hid q.out.fm;clear Y o J f c a9 q;subst hb
 generalize ff (s.on.r b).z p.zs p.ns=US at *
 generalize (p.zb b).room=RM at *
 have q1:(0:Int)<=(b:Int):=by omega
 go_wp2_with fail
 go_loopw [11,42] (λu i wk=>∃k:Nat,k<=s.ms.n/\i = .int .i64 k/\u = .int .i64 (RM-US-jj p s b k)/\Below F.heap.size F wk) (λ_ i _=>s.ms.n-(intOf i).toNat)
 case atStart=>exact⟨0,Qxz _,rfl,by simp[jj],K⟩
 clear K m H D A Q c0 c1 c2 c3 c4 c5 c6 S y1 y2 y3 aj;obtain⟨k,hk,rfl,rfl,t⟩:=hrel;have m1:=TB.out k hk;by_cases ad:k<s.ms.n;rotate_left
 .have aw:k=s.ms.n:=by omega
  subst aw;go_wp2_with fail
  go_ret2
  exact⟨by rw[x.out.1,x.out.2.1,TH.out];rfl,P.trans (t.mono P.size)⟩
 obtain⟨X,f,c,m⟩:=V.out wr t;obtain⟨⟨H,D,A⟩,Q,-⟩:=X;obtain⟨b1,o1,ae,bz,z0,z1,z2,z3⟩:=c.ms.hds k ad;have v:=qs (HF.out.move k ad);obtain⟨g,hg⟩:=Qzz v.1.1;have aa:g<p.ns:=by omega
 obtain⟨b2,o2,ac,a4,S⟩:=f.sizes g aa;have a7:=HF.out.sh.pl.sizes g aa;have a0:=v.2.2.2.2;have bw:=Cw (a:=(s.ms.z k).n) (b:=p.zs g) ⟨by omega,a0.2⟩ a7;have T:Hid (((s.ms.z k).b=b->jj p s b (k+1)=jj p s b k+(s.ms.z k).n*p.zs g)/\(¬(s.ms.z k).b=b->jj p s b (k+1)=jj p s b k)):=⟨λh=>by rw[L8 h,hg];rfl,Jk⟩;rw[hg] at z0;rw[ac] at A;obtain⟨y,M,B,hY⟩:∃y,wr.alloc (.cells #[.int .i64 g,.int .i64 (s.ms.z k).l,.int .i64 (s.ms.z k).b,.int .i64 (s.ms.z k).n] 77)=y/\Below F.heap.size F y/\Blk y wr.heap.size 77 4 (λj=>(#[.int .i64 g,.int .i64 (s.ms.z k).l,.int .i64 (s.ms.z k).b,.int .i64 (s.ms.z k).n]:Array Value).getD j default):=⟨_,rfl,t.alloc t.size _,Blk.mk' rfl rfl⟩;have HV:=hid M;have G:Below wr.heap.size wr y:=by rw[<-M];exact brf.alloc nlr _
 have r0:=Qqq (hY.k 0);have r3:=Qqq (hY.k 3);have r4:∀d os,(grow (redrawn y d) os).cell? ⟨w.heap.size,1,none⟩=some (.slice (some ⟨b2,o2,none⟩) p.ns p.cs):=λd os=>Qqq ((G.cell (p:=⟨w.heap.size,1,none⟩) H).trans A) d os;have r5:∀d os,(grow (redrawn y d) os).cell? ⟨b2,o2+g,none⟩=some (.int .i64 (p.zs g)):=λd os=>Qqq ((G.cell (p:=⟨b2,o2+g,none⟩) a4).trans S) d os;have q2:(0:Int)<=(g:Int):=by omega
 have q3:(0:Int)<=(k:Int):=by omega
 rw[ae];clear ae ac hg v M f c m S G D A
 generalize jj p s b k=U at *
 generalize (s.ms.z k).b=BB at *
 generalize (s.ms.z k).l=LL at *
 generalize (s.ms.z k).n=NN at *
 generalize p.zs g=ZG at *
 cases o:(BB==(b:Int))
 .have v:=T.out.2 (by simpa using o);have HM:=hid v;clear v T r0 r3 r4 r5;go_wp2_with fail;rw[HV.out];go_roundw
  case rel=>exact⟨k+1,by omega,by go_num,by rw[HM.out],B⟩
  case measure=>simp[intOf];omega
 have v:=T.out.1 (by simpa using o);have HM:=hid v;clear v T;go_wp2_with fail;rw[HV.out]
 generalize hPR:NN*ZG=PR at *
 refine Qxq (by kernel_rfl) (by kernel_rfl) ?_
 repeat(go_big_quiet_step(fail))
 refine Qqz ?_;intro _ a5;obtain⟨⟨dq,W⟩,an⟩:=a5;subst an;have hC:=B.trans ((Qxx y dq W).mono B.size);clear r0 r3 r4 r5 hY B HV
 generalize grow (redrawn y dq) W=wz at *
 go_wp2_with fail;go_roundw
 case rel=>exact⟨k+1,by omega,by go_num,by rw[HM.out,Int.sub_sub _ U],hC⟩
 case measure=>simp[intOf];omega
def Ag(p:Pl)(s:St):Prop:=s.on.n=p.nb/\(∀i,i<p.nb->(s.on.r i).n=p.ns/\∀j,j<p.ns->(s.on.r i).z j=0)/\s.os.n=0/\s.hs.n=0/\s.ms.n=0 /\
 (s.si.n=p.ns/\∀j,j<p.ns->s.si.z j=0)/\(s.so.n=p.ns/\∀j,j<p.ns->s.so.z j=0)/\(s.sf.n=p.ns/\∀j,j<p.ns->s.sf.z j=0)
def Dj(s:St):Prop:=s.on.n=0/\s.os.n=0/\s.hs.n=0/\s.ms.n=0/\s.si.n=0/\s.so.n=0/\s.sf.n=0
def aam(p:Pl)(s:St):Prop:=(iz p=0->Ag p s)/\(¬iz p=0->Dj s)
def ng:St:=⟨⟨none,0,0,λ_=>⟨none,0,0,λ_=>0⟩⟩,⟨none,0,0,λ_=>⟨0,⟨none,0,0,λ_=>⟨0,0,0,0⟩⟩⟩⟩,⟨none,0,0,λ_=>⟨0,0,0,0⟩⟩,⟨none,0,0,λ_=>⟨0,0,0,0⟩⟩,⟨none,0,0,λ_=>0⟩,⟨none,0,0,λ_=>0⟩,⟨none,0,0,λ_=>0⟩⟩
theorem Rw.none(w:World):Rw.At w ⟨.none,0,0,λ_=>0⟩:=⟨Nat.le_refl _,Qxz _,λi hi=>absurd hi (Qzq _)⟩
theorem Hs.none(w:World):Hs.At w ⟨.none,0,0,λ_=>⟨0,0,0,0⟩⟩:=⟨Nat.le_refl _,Qxz _,λi hi=>absurd hi (Qzq _),λ_=>rfl⟩
theorem y9(w:World):ng.At w :=
 ⟨⟨Nat.le_refl _,Qxz _,λi hi=>absurd hi (Qzq _)⟩,⟨Nat.le_refl _,Qxz _,λi hi=>absurd hi (Qzq _)⟩,Hs.none w,Hs.none w,Rw.none w,Rw.none w,Rw.none w⟩
theorem ab5(a:j<n):(madeCells (Value.int .i64 0).cells n).toList.getD j default = .int .i64 0:=by
 simp[madeCells,Value.cells,a,Nat.mod_one]
theorem ab8(a:j<n):(madeCells (Value.slice .none 0 0).cells n).toList.getD j default = .slice .none 0 0:=by
 simp[madeCells,Value.cells,a,Nat.mod_one]
theorem abx:(prog.info? 3).map (λi=>(i.zero,i.size,i.bytes))=some (some (.int .i64 0),1,8):=by kernel_rfl
theorem abn:(prog.info? 23).map (λi=>(i.zero,i.size,i.bytes))=some (some (.slice .none 0 0),1,24):=by kernel_rfl
theorem Ce(B:Nat)(p:Pl)(w:World)(ns3:p.ns<=3)(s:B<w.heap.size)(c1:w.cell? ⟨B,1,none⟩=some (.slice p.sa p.ns p.cs)):
  Calls prog 144 #[.pointer (some ⟨B,0,none⟩)] w λe l=>e = .returned (.slice (some ⟨w.heap.size,0,none⟩) p.ns p.ns)/\Blk l w.heap.size 3 p.ns (λ_ => .int .i64 0)/\Below w.heap.size w l:=by
 obtain⟨o,hi,d,i,h⟩:=info_parts abx;go_enter func144,ntmps144;go_wp2_with(at_make;refine wpList_make_full _ rfl _ _ 23 rfl w.heap.size 3 o (.int .i64 0) 1 underlying23 hi d i .i64 .i64 _ _ p.ns rfl rfl rfl rfl (by rw[h];omega) (by unfold maxLen;omega) nlr ?_;intro q c b);go_ret;obtain⟨g,r,f,_,_,_,a⟩:=Blk.ofOwns c (by simp);simp only[Value.slice.injEq,Qkx,Qkz,and_true] at f;obtain⟨rfl,-,-⟩:=f;rw[Nat.mul_one] at a;exact⟨rfl,a.congr (λj n=>ab5 n),(Below.refl _ w).grown b nlr (by intro k m;cases m)⟩
theorem Kx(h:Blk w g e n (λ_ => .int .i64 0))(a:n<=3):Rw.At w ⟨some ⟨g,0,.none⟩,n,n,λ_=>0⟩:=
 ⟨Nat.le_refl _,by show n<=maxLen;unfold maxLen;omega,λi hi=>⟨g,0,rfl,h.lt,by rw[Nat.zero_add];exact h.cell hi⟩⟩
def set7(w:World)(b:Nat)(v0 v1 v2 v3 v4 v5 v6:Value):World :=
 ((((((w.setCell ⟨b,0,none⟩ v0).setCell ⟨b,1,none⟩ v1).setCell ⟨b,2,none⟩ v2).setCell ⟨b,3,none⟩ v3).setCell ⟨b,4,none⟩ v4).setCell ⟨b,5,none⟩ v5).setCell ⟨b,6,none⟩ v6
theorem rp(h:Blk w b e 7 f)(l d c g i k a:Value):Blk (set7 w b l d c g i k a) b e 7 (λj=>(#[l,d,c,g,i,k,a]:Array Value).getD j default):=
 (((((((h.set 0 l).set 1 d).set 2 c).set 3 g).set 4 i).set 5 k).set 6 a).congr λj m=>by match j,m with|0,_=>rfl|1,_=>rfl|2,_=>rfl|3,_=>rfl|4,_=>rfl|5,_=>rfl|6,_=>rfl
theorem ww(h:Blk w g e n f)(c:g≠b)(o j i k l m d:Value):Blk (set7 w b o j i k l m d) g e n f :=
 ((((((h.other (a:=⟨b,0,none⟩) c o).other (a:=⟨b,1,none⟩) c j).other (a:=⟨b,2,none⟩) c i).other (a:=⟨b,3,none⟩) c k).other (a:=⟨b,4,none⟩) c l).other (a:=⟨b,5,none⟩) c m).other (a:=⟨b,6,none⟩) c d
theorem na{A:World}(h:Below n A w)(a:n<=b)(j e d f g i c:Value):Below n A (set7 w b j e d f g i c):=
 ((((((h.setCell (p:=⟨b,0,none⟩) a j).setCell (p:=⟨b,1,none⟩) a e).setCell (p:=⟨b,2,none⟩) a d).setCell (p:=⟨b,3,none⟩) a f).setCell (p:=⟨b,4,none⟩) a g).setCell (p:=⟨b,5,none⟩) a i).setCell (p:=⟨b,6,none⟩) a c
theorem co{l d c f g i a:Value}(h:Blk w b e 7 (λj=>(#[l,d,c,f,g,i,a]:Array Value).getD j default)):
  w.cell? ⟨b,0,none⟩=some l/\w.cell? ⟨b,1,none⟩=some d/\w.cell? ⟨b,2,none⟩=some c/\w.cell? ⟨b,3,none⟩=some f/\w.cell? ⟨b,4,none⟩=some g/\w.cell? ⟨b,5,none⟩=some i/\w.cell? ⟨b,6,none⟩=some a :=
 ⟨h.k 0,h.k 1,h.k 2,h.k 3,h.k 4,h.k 5,h.k 6⟩
theorem ab7(w:World)(x:St):∃W,w.alloc (.cells #[.slice x.on.a x.on.n x.on.c,.slice x.os.a x.os.n x.os.c,.slice x.hs.a x.hs.n x.hs.c,.slice x.ms.a x.ms.n x.ms.c,.slice x.si.a x.si.n x.si.c,.slice x.so.a x.so.n x.so.c,.slice x.sf.a x.sf.n x.sf.c] 31)=W/\Below w.heap.size w W/\Blk W w.heap.size 31 7 (λj=>x.cells.getD j default):=⟨_,rfl,(Below.refl _ _).alloc (Nat.le_refl _) _,Blk.mk' rfl rfl⟩
theorem n7b(h:Blk w b e 7 f):Blk (set7 w b (.slice .none 0 0) (.slice .none 0 0) (.slice .none 0 0) (.slice .none 0 0) (.slice .none 0 0) (.slice .none 0 0) (.slice .none 0 0)) b e 7 (λj=>(#[.slice .none 0 0,.slice .none 0 0,.slice .none 0 0,.slice .none 0 0,.slice .none 0 0,.slice .none 0 0,.slice .none 0 0]:Array Value).getD j default):=rp h (.slice .none 0 0) (.slice .none 0 0) (.slice .none 0 0) (.slice .none 0 0) (.slice .none 0 0) (.slice .none 0 0) (.slice .none 0 0)
theorem n7w{A:World}(h:Below n A w)(a:n<=b):Below n A (set7 w b (.slice .none 0 0) (.slice .none 0 0) (.slice .none 0 0) (.slice .none 0 0) (.slice .none 0 0) (.slice .none 0 0) (.slice .none 0 0)):=na h a (.slice .none 0 0) (.slice .none 0 0) (.slice .none 0 0) (.slice .none 0 0) (.slice .none 0 0) (.slice .none 0 0) (.slice .none 0 0)
theorem s7b(h:Blk w b e 7 f)(y:St):Blk (set7 w b (.slice y.on.a y.on.n y.on.c) (.slice y.os.a y.os.n y.os.c) (.slice y.hs.a y.hs.n y.hs.c) (.slice y.ms.a y.ms.n y.ms.c) (.slice y.si.a y.si.n y.si.c) (.slice y.so.a y.so.n y.so.c) (.slice y.sf.a y.sf.n y.sf.c)) b e 7 (λj=>(#[.slice y.on.a y.on.n y.on.c,.slice y.os.a y.os.n y.os.c,.slice y.hs.a y.hs.n y.hs.c,.slice y.ms.a y.ms.n y.ms.c,.slice y.si.a y.si.n y.si.c,.slice y.so.a y.so.n y.so.c,.slice y.sf.a y.sf.n y.sf.c]:Array Value).getD j default):=rp h (.slice y.on.a y.on.n y.on.c) (.slice y.os.a y.os.n y.os.c) (.slice y.hs.a y.hs.n y.hs.c) (.slice y.ms.a y.ms.n y.ms.c) (.slice y.si.a y.si.n y.si.c) (.slice y.so.a y.so.n y.so.c) (.slice y.sf.a y.sf.n y.sf.c)
theorem s7w{A:World}(h:Below n A w)(d:n<=b)(y:St):Below n A (set7 w b (.slice y.on.a y.on.n y.on.c) (.slice y.os.a y.os.n y.os.c) (.slice y.hs.a y.hs.n y.hs.c) (.slice y.ms.a y.ms.n y.ms.c) (.slice y.si.a y.si.n y.si.c) (.slice y.so.a y.so.n y.so.c) (.slice y.sf.a y.sf.n y.sf.c)):=na h d (.slice y.on.a y.on.n y.on.c) (.slice y.os.a y.os.n y.os.c) (.slice y.hs.a y.hs.n y.hs.c) (.slice y.ms.a y.ms.n y.ms.c) (.slice y.si.a y.si.n y.si.c) (.slice y.so.a y.so.n y.so.c) (.slice y.sf.a y.sf.n y.sf.c)
def nk(P:Program)(ops:Array Oper)(Q:Exit->Act->World->Prop)(S:World->Prop)(T:Nat->Bool):Nat->Array Bool->Act->World->Prop
 | 0,listed,a,w=>Region.ready .any ops listed=[]/\Q .normal a w
 | fuel+1,listed,a,w=>(Region.ready .any ops listed=[]->Q .normal a w) /\
   ∀i∈Region.ready .any ops listed,wpOp P ops Q i (λa' w'=>(T i=false->S w')/\nk P ops Q S T fuel (listed.setIfInBounds i true) a' w') a w
theorem Ab{P:Program}{c:Array Oper}{Q:Exit->Act->World->Prop}{S:World->Prop}{T:Nat->Bool}:∀(fuel:Nat) (b:Array Bool) (a:Act) (w:World),nk P c Q S T fuel b a w->wpAny P .any c Q fuel b a w
 | 0,_,_,_,h=>h
 | fuel+1,_,_,_,h=>⟨h.1,λi hi=>wpOp_mono (λe d f=>Ab fuel _ e d f.2) (h.2 i hi)⟩
def ni(ops:Array Oper)(listed:Array Bool):Prop:=∀j,listed.getD j false=true->∀d∈ja ops j,listed.getD d false=true
def rv(ops:Array Oper):Nat->Nat->Nat->Bool
 | 0,_,_=>false
 | f+1,j,i=>(ja ops j).any (λd=>d==i||rv ops f d i)
theorem wn{c:Array Oper}{a:Array Bool}(hc:ni c a):∀(f j i:Nat),(∀d∈ja c j,a.getD d false=true)->rv c f j i=true->a.getD i false=true
 | 0,_,_,_,h=>by simp[rv] at h
 | f+1,j,i,hd,h=>by
  unfold rv at h;obtain⟨d,e,b⟩:=List.any_eq_true.1 h;simp only[Bool.or_eq_true,beq_iff_eq] at b;rcases b with rfl|b
  .exact hd d e
  exact wn hc f d i (hc d (hd d e)) b
theorem Aa{b:Array Oper}{a:Array Bool}(h:j∈Region.ready .any b a):∀d∈ja b j,a.getD d false=true:=λd hd=>by
 obtain⟨_,o,g,c⟩:=mem_ready.1 h;unfold ja at hd;rw[g] at hd;obtain⟨e,f,rfl⟩:=List.mem_map.1 hd;have:=List.mem_filter.1 f;exact c e (by simpa using this.1) this.2
theorem Ox{a:Array Bool}{d:Nat}(h:a.getD d false=true):(a.setIfInBounds i true).getD d false=true:=by
 by_cases hid:i=d
 .subst hid;by_cases b:i<a.size
  .simp[Array.getD,b]
  simp[Array.getD,b] at h
 rw[getD_set_ne false hid];exact h
theorem ni.set{b:Array Oper}{a:Array Bool}(hc:ni b a)(hi:i∈Region.ready .any b a):ni b (a.setIfInBounds i true):=λj e d hd=>by
 by_cases c:i=j
 .subst c;exact Ox (Aa hi d hd)
 rw[getD_set_ne false c] at e;exact Ox (hc j e d hd)
theorem ni.none(a:Array Oper)(n:Nat):ni a (Array.replicate n false):=λj c=>by
 by_cases b:j<n<;>simp[Array.getD,b] at c
theorem Hl{f:Array Oper}{T:Nat->Bool}{m:Oper}(hi:f[i]?=some m)(u:∀(j:Nat) (o:Oper) cs b,f[j]?=some o->o.op ≠ .select cs b)
  (hQ:∀c a w,Q (.panic c) (a.put m.dst v) w->Q (.panic c) a w) (hT:∀j,T j=true->rv f N j i=true) (ag:T i=false) :
  ∀(fuel:Nat) (d:Array Bool) (a:Act) (w:World),
   (∀j p,f[j]?=some p->j≠i->d.getD j true=false->(∀e∈p.after,Region.binds .any e=true->e.on≠i)->m.apart f p=true) ->
   i∈Region.ready .any f d->ni f d->YieldsIf P f S m v a->S w ->
   nk P f Q S T fuel (d.setIfInBounds i true) (a.put m.dst v) w->nk P f Q S T (fuel+1) d a w:=by
 intro fuel
 induction fuel with
 | zero =>
  intro d a w _ n _ B s H;refine⟨λh=>(by rw[h] at n;cases n),λj r => ?_⟩;by_cases g:j=i
  .subst g;exact B.wpOp hi s ⟨λ_=>s,H⟩
  have:=ready_mono r g;rw[H.1] at this;cases this
 | succ fuel ih =>
  intro d a w q n hc B s H;refine⟨λh=>(by rw[h] at n;cases n),λj r => ?_⟩;by_cases g:j=i
  .subst g;exact B.wpOp hi s ⟨λ_=>s,H⟩
  have l:=H.2 j (ready_mono r g);obtain⟨t,p,x,G⟩:=mem_ready.1 r;have y:¬d.getD i false=true:=λl=>by
   have V:=(mem_ready.1 n).1;rcases Nat.lt_or_ge i d.size with J|J
   .simp[J] at V l;rw[V] at l;cases l
   simp[Array.getElem?_eq_none J] at l
  have F:∀e∈p.after,Region.binds .any e=true->e.on≠i:=λe X hb M=>by
   have l:=G e X hb;rw[M] at l;exact y l
  have U:T j=false:=by
   cases hq:T j
   .rfl
   exact absurd (wn hc N j i (Aa r) (hT j hq)) y
  have h2:=wpOp_putIf x (q j p x g t F) (λcs b=>u i m cs b hi) (λcs b=>u j p cs b x) hQ B l;have z:∀k ok,f[k]?=some ok->k≠i->(d.setIfInBounds j true).getD k true=false ->
    (∀e∈ok.after,Region.binds .any e=true->e.on≠i)->m.apart f ok=true:=λk ok W K D L=>by
   refine q k ok W K ?_ L;by_cases E:j=k
   .subst E;exact t
   rw[getD_set_ne true E] at D;exact D
  refine wpOp_mono (λY w' A=>⟨A.2.1,ih (d.setIfInBounds j true) Y w' z (ready_mono n (Ne.symm g)) (hc.set r) A.1 (A.2.1 U) ?_⟩) h2;rw[Array.setIfInBounds_comm _ _ g];exact A.2.2
theorem Bz{P:Program}{l:List Oper}{Q:Exit->Act->World->Prop}{S:World->Prop}{T:Nat->Bool}{N:Nat}{K:Act->Prop}{w:World}{fuel:Nat}(hs:Region.noSelect l.toArray=true)(f:S w)(r:∀c a a' w,Q (.panic c) a w->Q (.panic c) a' w):
  ∀(d:List Nat) (os:List Oper) (b:Array Bool) (a:Act),se l.toArray d b=true->(∀k∈d,T k=false/\∀j,T j=true->rv l.toArray N j k=true)->ni l.toArray b->d.map (λk=>l[k]?)=os.map some->(os.all yf)=true ->
   wpQuiet P l.toArray S K os a->(∀a,K a->ni l.toArray (ip b d)->nk P l.toArray Q S T fuel (ip b d) a w)->nk P l.toArray Q S T (d.length+fuel) b a w
 | [],[],b,a,_,_,hc,_,_,h,hK=>by rw[List.length_nil,Nat.zero_add];exact hK a h hc
 | k :: d,o :: os,b,a,hB,hTk,hc,hk,hv,h,hK=>by
  simp only[List.map_cons,List.cons.injEq] at hk;simp only[List.all_cons,Xxx] at hv;simp only[se,Xxx] at hB;rw[List.length_cons,Nat.add_right_comm];have e:k∈Region.ready .any l.toArray b:=by simpa using hB.1.1
  have go:∀v,YieldsIf P l.toArray S o v a->nk P l.toArray Q S T (d.length+fuel) (b.setIfInBounds k true) (a.put o.dst v) w->nk P l.toArray Q S T (d.length+fuel+1) b a w :=
   λv s y=>Hl (N:=N) (by simpa using hk.1) (Region.noSelect_spec hs) (λc a w i=>r _ _ _ _ i) (hTk k (by simp)).2 (hTk k (by simp)).1 _ b a w (Region.free_spec (by simpa using hk.1) hB.1.2) e hc s f y
  have again:=λ(a:Act) (i:wpQuiet P l.toArray S K os a)=>Bz (N:=N) (T:=T) (fuel:=fuel) hs f r d os _ a hB.2 (λt p=>hTk t (by simp[p])) (hc.set e) hk.2 hv.2 i hK;unfold wpQuiet at h
  split at h
  .rename_i g;obtain⟨v,z,A⟩:=h;refine go v (.inl ⟨g,λq f => ?_⟩) (again _ A);have:=z q f;unfold Oper.quietAt at this;cases m:(execOp a.eval o).run P q with
   | ok n w2 =>
    rw[m] at this;obtain⟨u,rfl⟩:=Be hv.1 m;simp only[Oper.quietUpon] at this;rw[this.1,this.2]
   | halt x w2=>rw[m] at this;exact this.elim
  rename_i g;exact go undef (.inr ⟨by simpa using g,rfl⟩) (again _ h)
 | [],_ :: _,_,_,_,_,_,hk,_,_,_=>by simp at hk
 | _ :: _,[],_,_,_,_,_,hk,_,_,_=>by simp at hk
def jq(t:Bool)(S:World->Prop)(w:World):Prop:=t=false->S w
theorem jq.yes:jq true S w:=λh=>by cases h
theorem jq.no(h:S w):jq false S w:=λ_=>h
def I4(P:Program)(ops:Array Oper)(Q:Exit->Act->World->Prop)(S:World->Prop):List (Bool × Nat)->Act->World->Prop
 | [],a,w=>Q .normal a w
 | (t,i) :: r,a,w=>wpOp P ops Q i (λa' w'=>jq t S w'/\I4 P ops Q S r a' w') a w
def Ka(ops:Array Oper):List (Bool × Nat)->Array Bool->Bool
 | [],listed=>Region.ready .any ops listed==[]
 | (t,i) :: r,listed=>Region.ready .any ops listed==[i]&&Ka ops r (listed.setIfInBounds i true)
theorem Cm{P:Program}{d:Array Oper}{Q:Exit->Act->World->Prop}{S:World->Prop}{T:Nat->Bool}:∀(c:List (Bool × Nat)) (b:Array Bool) (a:Act) (w:World),
   Ka d c b=true->(∀t i,(t,i)∈c->T i=t)->I4 P d Q S c a w->nk P d Q S T c.length b a w
 | [],b,a,w,hB,_,h=>⟨by simpa[Ka] using hB,h⟩
 | (t,i) :: r,b,a,w,hB,hT,h=>by
  simp only[Ka,Xxx,beq_iff_eq] at hB;refine⟨λl=>absurd (hB.1.symm.trans l) (by simp),λj f => ?_⟩;rw[hB.1,List.mem_singleton] at f;subst f;refine wpOp_mono (λm k g=>⟨?_,Cm r _ m k hB.2 (λt i e=>hT t i (by simp[e])) g.2⟩) h;rw[hT t j (by simp)];exact g.1
theorem mg{b:Array Oper}{K:Act->World->Prop}{a:Act}(h:K a w):wpList P b (Exit.then K Q) [] a w:=by unfold wpList;exact h
theorem dk{l:List Oper}{r:List (Bool × Nat)}{t:Bool}(k:Nat){o:Oper}{a:Act}(c:l[k]?=some o)
  (h:wpList P l.toArray (Exit.then (λd b=>jq t S b/\I4 P l.toArray Q S r d b) Q) [o] a w):I4 P l.toArray Q S ((t,k) :: r) a w :=
 ay k c h
def ut(ops:Array Oper)(rem:List Nat)(L:Array Bool):Bool :=
 (List.range ops.size).all (λi=>L.getD i true||rem.contains i||rem.all (λr=>rv ops ops.size i r)) &&
 L3 ops L [] rem&&rem.all (λr=>decide (r<ops.size) && !L.getD r true)&&decide (L.size=ops.size)&&decide ((rem.map (bu ops)).Nodup)
theorem Xw{c:Array Oper}{T:Nat->Bool}{b:List Nat}{D:Nat->Value->List Nat->World->Prop}{fuel:Nat}(hB:ut c b L=true)(hT:∀r∈b,T r=false)
  (mono:∀j∈b,∀v g w A,Below w.heap.size w A->D j v g w->D j v g A) (lt:∀j∈b,∀v g w,D j v g w->∀x∈g,x<w.heap.size)
  (step:∀i∈b,∀(V:Nat->Value) (G:Nat->List Nat) (w:World) (K:Act->World->Prop),S w->(∀d∈ja c i,d∈b->D d (V d) (G d) w) ->
   (∀v g A,S A->Below w.heap.size w A->(∀x∈g,w.heap.size<=x)->D i v g A->K ((ap c b V a1).put (bu c i) v) A)->wpOp P c Q i K (ap c b V a1) w)
  (done:∀(V:Nat->Value) (G:Nat->List Nat) (w:World),S w->(∀j∈b,D j (V j) (G j) w)->(∀j∈b,∀k∈b,j≠k->∀x∈G j,x ∉ G k)->nk P c Q S T fuel (ip L b) (ap c b V a1) w) :
  ∀(m:Nat) (a:Array Bool) (V:Nat->Value) (G:Nat->List Nat) (w:World),(b.filter (λr => !a.getD r true)).length=m->a.size=c.size->(∀j,j ∉ b->a[j]?=L[j]?)->ni c a->S w->(∀j∈b,a.getD j true=true->D j (V j) (G j) w) ->
   (∀j∈b,∀k∈b,a.getD j true=true->a.getD k true=true->j≠k->∀x∈G j,x ∉ G k)->nk P c Q S T (m+fuel) a (ap c b V a1) w:=by
 simp only[ut,Xxx,decide_eq_true_eq] at hB;obtain⟨⟨⟨⟨ay,ag⟩,ax⟩,bj⟩,ai⟩:=hB;have s:∀r∈b,r<c.size/\L.getD r true=false:=λr Y=>by
  have:=List.all_eq_true.1 ax r Y
  simpa using this
 intro m
 induction m with
 | zero =>
  intro a V G w hm M B af hS X hA;have z:∀r∈b,a.getD r true=true:=λr Y=>by
   cases hq:a.getD r true
   .have:r∈b.filter (λr => !a.getD r true):=List.mem_filter.2 ⟨Y,by simp[hq]⟩;rw[List.length_eq_zero_iff.1 hm] at this;simp at this
   rfl
  have hl:a=ip L b:=by
   apply Array.ext_getElem?
   intro j;by_cases f:j<L.size
   .rw[Az b L j f];by_cases J:j∈b
    .rw[if_pos J];have p:=z j J;have l:j<a.size:=by omega
     simp only[Array.getD,l,dif_pos] at p;simp[l];exact p
    rw[if_neg J];exact B j J
   rw[Array.getElem?_eq_none (by omega),Array.getElem?_eq_none (by rw[zj];omega)]
  rw[Nat.zero_add,hl];exact done V G w hS (λj f=>X j f (z j f)) λj f k W=>hA j f k W (z j f) (z k W)
 | succ m ih =>
  intro a V G w hm M B af hS X hA;have al:∃r∈b,a.getD r true=false:=by
   have a7:b.filter (λr => !a.getD r true)≠[]:=λe=>by rw[e] at hm;simp at hm
   obtain⟨x,hx⟩:=List.exists_mem_of_ne_nil _ a7;have:=List.mem_filter.1 hx;exact⟨x,this.1,by simpa using this.2⟩
  have a4:∀d,L.getD d false=true->a.getD d false=true:=λd hd=>by
   by_cases F:d∈b
   .have p:=(s d F).2;have l:d<L.size:=by have:=(s d F).1;omega
    simp only[Array.getD,l,dif_pos] at p hd;rw[p] at hd;cases hd
   have p:=B d F;by_cases l:d<L.size
   .have h3:d<a.size:=by omega
    simp only[Array.getD,l,h3,dif_pos] at hd ⊢;simp only[Array.getElem?_eq_getElem l,Array.getElem?_eq_getElem h3,Qkx] at p;rw[Array.getInternal_eq_getElem] at hd ⊢;rw[p];exact hd
   simp[Array.getD,l] at hd
  obtain⟨r0,bi,au⟩:=xj M [] b ag a4 (λd hd=>by simp at hd) (λr Y=>(s r Y).1) al;rw[Nat.add_right_comm];refine⟨λh0=>absurd (h0▸au) (by simp),λi hi => ?_⟩;obtain⟨U,o,ho,ao⟩:=mem_ready.1 hi;have ah:∀d∈ja c i,a.getD d false=true:=λd hd=>by
   unfold ja at hd;rw[ho] at hd;obtain⟨e,he,rfl⟩:=List.mem_map.1 hd;have:=List.mem_filter.1 he;exact ao e (by simpa using this.1) this.2
  have an:∀d,a.getD d false=true->a.getD d true=true:=λd hd=>by
   by_cases l:d<a.size
   .simpa[Array.getD,l] using hd
   simp[Array.getD,l]
  have E:i∈b:=by
   cases hc:b.contains i;rotate_left
   .exact Qjz hc
   exfalso;have a2:i<c.size:=(Qkq ho).1;have a9:i ∉ b:=λh=>by
    have:=List.contains_iff_mem.2 h;rw[this] at hc;cases hc
   have p:=List.all_eq_true.1 ay i (List.mem_range.2 a2);have a0:L.getD i true=false:=by
    have l:=B i a9;have h3:i<L.size:=by omega
    have h4:i<a.size:=by omega
    simp only[Array.getElem?_eq_getElem h3,Array.getElem?_eq_getElem h4,Qkx] at l;simp only[Array.getD,h3,h4,dif_pos] at U ⊢;rw[Array.getInternal_eq_getElem] at U ⊢;rw[<-l];exact U
   rw[a0,hc] at p;simp only[Bool.false_or] at p;obtain⟨q,hq,a5⟩:=al;have h5:=List.all_eq_true.1 p q hq;have h6:=an q (wn af _ i q (Aa hi) h5);rw[a5] at h6;cases h6
  refine step i E V G w _ hS (λd hd F=>X d F (an d (ah d hd))) (λv g A ak aw am bc => ?_);refine⟨λ_=>ak,?_⟩;rw[xv ai E];have a8:i<a.size:=by rw[M];exact(s i E).1
  have t:∀j,(a.setIfInBounds i true).getD j true=if j=i then true else a.getD j true:=λj=>by
   by_cases f:j=i
   .subst f;simp[Array.getD,a8]
   rw[if_neg f,getD_set_ne true (λe=>f e.symm)]
  refine ih (a.setIfInBounds i true) (upd V i v) (λj=>if j=i then g else G j) A ?_ (by simpa using M) (λj f => ?_) (af.set hi) ak (λj f u => ?_) (λj f k W u H aj x hx => ?_)
  .have ad:b.Nodup:=by
    exact(List.pairwise_map.1 ai).imp (λh e=>h (by rw[e]))
   have e1:(b.filter (λr => !a.getD r true))=b.filter (λr => !a.getD r true):=rfl;have ae:(b.filter (λr => !(a.setIfInBounds i true).getD r true))=(b.filter (λr => !a.getD r true)).erase i:=by
    have e2:b.filter (λr => !(a.setIfInBounds i true).getD r true)=(b.filter (λr => !a.getD r true)).filter (λr=>r !=i):=by
     rw[List.filter_filter];refine List.filter_congr λx hx => ?_;rw[t x];by_cases az:x=i<;>simp[az]
    rw[e2,<-List.Nodup.erase_eq_filter (ad.filter _)]
   rw[ae,List.length_erase_of_mem (List.mem_filter.2 ⟨E,by simp[U]⟩),hm]
   rfl
  .rw[Array.getElem?_setIfInBounds,if_neg (λe:i=j=>f (by rw[<-e];exact E))];exact B j f
  .unfold upd;by_cases n:j=i
   .subst n;rw[if_pos rfl,if_pos rfl];exact bc
   rw[if_neg n,if_neg n];rw[t j,if_neg n] at u;exact mono j f _ _ _ _ aw (X j f u)
  by_cases n:j=i
  .have y:¬k=i:=λe=>aj (n.trans e.symm);rw[if_pos n] at hx;rw[if_neg y];rw[t k,if_neg y] at H;intro ab;have p:=am x hx;have l:=lt k W _ _ _ (X k W H) x ab;omega
  rw[if_neg n] at hx;rw[t j,if_neg n] at u;by_cases y:k=i
  .rw[if_pos y];intro ab;have p:=am x ab;have l:=lt j f _ _ _ (X j f u) x hx;omega
  rw[if_neg y];rw[t k,if_neg y] at H;exact hA j f k W u H aj x hx
def ab2(P:Program)(ops:Array Oper)(Q:Exit->Act->World->Prop)(S:World->Prop)(rem:List Nat)(ord:List (Bool × Nat))(a1:Act):Prop :=
 ∃D:Nat->Value->List Nat->World->Prop,(∀j∈rem,∀v g w w',Below w.heap.size w w'->D j v g w->D j v g w')/\(∀j∈rem,∀v g w,D j v g w->∀x∈g,x<w.heap.size) /\
  (∀i∈rem,∀(V:Nat->Value) (G:Nat->List Nat) (w:World) (K:Act->World->Prop),S w->(∀d∈ja ops i,d∈rem->D d (V d) (G d) w) ->
   (∀v g w',S w'->Below w.heap.size w w'->(∀x∈g,w.heap.size<=x)->D i v g w'->K ((ap ops rem V a1).put (bu ops i) v) w')->wpOp P ops (NoPanic Q) i K (ap ops rem V a1) w) /\
  (∀(V:Nat->Value) (G:Nat->List Nat) (w:World),S w->(∀j∈rem,D j (V j) (G j) w)->(∀j∈rem,∀k∈rem,j≠k->∀x∈G j,x ∉ G k)->I4 P ops (NoPanic Q) S ord (ap ops rem V a1) w)
def Wg(ops:Array Oper)(ks rem:List Nat)(ord:List (Bool × Nat)):Bool :=
 ks.all (λk => !ord.contains (true,k)&&ord.all (λx => !x.1||rv ops ops.size x.2 k))&&rem.all (λr => !ord.contains (true,r))&&ord.all (λx=>x.1 || !ord.contains (true,x.2))
theorem jt{l:List Oper}{a:Act}(S:World->Prop)(e b:List Nat)(d:List (Bool × Nat))(A:S w.drew)(h:wpQuiet P l.toArray S (ab2 P l.toArray Q S b d) (dw l e) a)(K:P.follows .mixedOrders=true:=by kernel_rfl)(hs:Region.noSelect l.toArray=true:=by kernel_rfl)(X:se l.toArray e (Array.replicate l.length false)=true:=by kernel_rfl)(z:e.all (λk=>decide (k<l.length))=true:=by kernel_rfl)(J:((dw l e).all yf)=true:=by kernel_rfl)(F:ut l.toArray b (ip (Array.replicate l.length false) e)=true:=by kernel_rfl)(n:Wg l.toArray e b d=true:=by kernel_rfl)(M:Ka l.toArray d (ip (ip (Array.replicate l.length false) e) b)=true:=by kernel_rfl)(Y:e.length+(b.length+d.length)=l.length:=by kernel_rfl):(Code.region R l.toArray true).wp P Q a w:=by
 refine wp_region_noPanic (wp_region_any K ?_);have m:=F;simp only[ut,Xxx,decide_eq_true_eq] at m;simp only[Wg,Xxx] at n;have hT:∀j,(d.contains (true,j))=true->(true,j)∈d:=λj h=>by simpa using h
 have key:=Bz (Q:=NoPanic Q) (T:=λi=>d.contains (true,i)) (N:=l.toArray.size) (fuel:=b.length+d.length) (w:=w.drew) hs A (λc a a' w h=>(h:False).elim) e (dw l e) _ a X (λk x => ?_) (ni.none _ _) (Ao z) J h (λa1 U y => ?_)
 .have:=Ab _ _ _ _ key;rw[Y] at this
  simpa using this
 .have v:=List.all_eq_true.1 n.1.1 k x;simp only[Xxx] at v;refine⟨by simpa using v.1,λj g => ?_⟩;have h2:=List.all_eq_true.1 v.2 (true,j) (hT j g)
  simpa using h2
 obtain⟨D,mono,lt,step,done⟩:=U;have q:(b.filter (λr => !(ip (Array.replicate l.length false) e).getD r true))=b:=by
  rw[List.filter_eq_self];intro r s;have:=List.all_eq_true.1 m.1.1.2 r s;simp only[Xxx] at this;exact this.2
 have o:∀j∈b,(ip (Array.replicate l.length false) e).getD j true=true->False:=λj g f=>by
  have:=List.all_eq_true.1 m.1.1.2 j g;simp only[Xxx,f] at this;simp at this
 obtain⟨u,E⟩:∃u,ap l.toArray b u a1=a1:=⟨_,vd a1 b⟩;have:=Xw (P:=P) (Q:=NoPanic Q) (S:=S) (T:=λi=>d.contains (true,i)) (a1:=a1) (fuel:=d.length) F (λr s=>by have:=List.all_eq_true.1 n.1.2 r s;simpa using this) mono lt step
  (λV G B H L W=>Cm d _ _ B M (λt i p=>by
   cases t with
   | true=>simpa using p
   | false =>
    have:=List.all_eq_true.1 n.2 (false,i) p
    simpa using this) (done V G B H L W))
  b.length (ip (Array.replicate l.length false) e) u (λ_=>[]) w.drew (by rw[q]) m.1.2 (λ_ _=>rfl) y A (λj g f=>(o j g f).elim) (λj g k x f _ _=>(o j g f).elim)
 rw[E] at this;exact this
def j6(A:Nat)(w:World)(r:Rw):Prop:=∃g,r.a=some ⟨g,0,none⟩/\A<=g/\r.n<=r.c/\r.c<=maxLen/\Blk w g 3 r.n (λj => .int .i64 (r.z j))
theorem j6.at{r:Rw}(h:j6 A w r):r.At w:=by
 obtain⟨g,c,_,d,b,a⟩:=h;exact⟨d,b,λi hi=>⟨g,0,c,a.lt,by rw[Nat.zero_add];exact a.cell hi⟩⟩
theorem j6.below{r:Rw}(h:j6 A w r)(f:Below w.heap.size w a):j6 A a r:=by
 obtain⟨g,e,d,i,c,b⟩:=h;exact⟨g,e,d,i,c,b.below f⟩
structure ai(A:Nat)(w:World)(s:St):Prop where
 on:∃g,s.on.a=some ⟨g,0,none⟩/\A<=g/\s.on.n<=s.on.c/\s.on.c<=maxLen/\Blk w g 23 s.on.n (λi => .slice (s.on.r i).a (s.on.r i).n (s.on.r i).c)
 rows:∀i,i<s.on.n->j6 A w (s.on.r i)
 rapart:∀i j,i<j->j<s.on.n->(s.on.r i).a≠(s.on.r j).a
 os:j7 A w s.os
 hs:cz A 103 w s.hs
 ms:cz A 77 w s.ms
 msr:fq A w 77 4 s.ms.a s.ms.c
 si:j6 A w s.si
 so:j6 A w s.so
 sf:j6 A w s.sf
 aio:s.si.a≠s.so.a
 aif:s.si.a≠s.sf.a
 aof:s.so.a≠s.sf.a
 ari:∀i,i<s.on.n->(s.on.r i).a≠s.si.a/\(s.on.r i).a≠s.so.a/\(s.on.r i).a≠s.sf.a
theorem ai.at(h:ai A w s):s.At w:=by
 obtain⟨g,c,_,d,b,a⟩:=h.on;exact⟨⟨d,b,λi hi=>⟨g,0,c,a.lt,by rw[Nat.zero_add];exact a.cell hi,(h.rows i hi).at⟩⟩,h.os.at,h.hs.at,h.ms.at,h.si.at,h.so.at,h.sf.at⟩
theorem j6.other{r:Rw}(h:j6 A w r)(d:Blk w q t n f)(c:3≠t)(j:Nat)(u:Value):j6 A (w.setCell ⟨q,j,none⟩ u) r:=by
 obtain⟨g,k,i,l,e,b⟩:=h;exact⟨g,k,i,l,e,b.other (a:=⟨q,j,none⟩) (Blk.ne2 b d c) u⟩
theorem j7.other{s:Os}(h:j7 A w s)(k:Blk w q t n f)(l:66≠t)(o:68≠t)(j:Nat)(u:Value):j7 A (w.setCell ⟨q,j,none⟩ u) s:=by
 refine⟨h.le,h.cap,λm => ?_,λi hi => ?_,h.apart,h.room.set q j u⟩
 .obtain⟨g,a,b,c⟩:=h.list m;exact⟨g,a,b,c.other (a:=⟨q,j,none⟩) (Blk.ne2 c k l) u⟩
 obtain⟨B,a,b,c,d,e⟩:=h.lines i hi;exact⟨B,a,b,c,d,e.other (a:=⟨q,j,none⟩) (Blk.ne2 e k o) u⟩
theorem ai.box(h:ai A w s)(b:Blk w q 31 n f)(j:Nat)(u:Value):ai A (w.setCell ⟨q,j,none⟩ u) s:=by
 refine⟨?_,λi hi=>(h.rows i hi).other b (by decide) j u,h.rapart,h.os.other b (by decide) (by decide) j u,h.hs.other b (by decide) j u,h.ms.other b (by decide) j u,h.msr.set q j u,h.si.other b (by decide) j u,h.so.other b (by decide) j u,h.sf.other b (by decide) j u,h.aio,h.aif,h.aof,h.ari⟩;obtain⟨g,k,e,l,d,c⟩:=h.on;exact⟨g,k,e,l,d,c.other (a:=⟨q,j,none⟩) (Blk.ne2 c b (by decide)) u⟩
theorem ai.set7(h:ai A w s)(c:Blk w b 31 7 f)(a d e g i j k:Value):ai A (Go.Proofs.YtbcacebifpagpafGreat.set7 w b a d e g i j k) s :=
 ((((((h.box c 0 a).box (c.set 0 a) 1 d).box ((c.set 0 a).set 1 d) 2 e).box (((c.set 0 a).set 1 d).set 2 e) 3 g).box ((((c.set 0 a).set 1 d).set 2 e).set 3 g) 4 i).box (((((c.set 0 a).set 1 d).set 2 e).set 3 g).set 4 i) 5 j).box ((((((c.set 0 a).set 1 d).set 2 e).set 3 g).set 4 i).set 5 j) 6 k
def Cl(A:Nat)(s:St)(v:Value)(g:List Nat)(wk:World):Prop:=∃(g0:Nat) (G C:Nat->Nat),v = .slice (some ⟨g0,0,none⟩) s.on.n s.on.n/\A<=g0/\Blk wk g0 23 s.on.n (λi => .slice (some ⟨G i,0,none⟩) (s.on.r i).n (C i)) /\
 (∀i,i<s.on.n->A<=G i/\(s.on.r i).n<=C i/\C i<=maxLen/\Blk wk (G i) 3 (s.on.r i).n (λj => .int .i64 ((s.on.r i).z j)))/\(∀i j,i<j->j<s.on.n->G i<G j)/\g=(List.range s.on.n).map G
theorem Cl.below{g:List Nat}(h:Cl A s v g w)(b:Below w.heap.size w c):Cl A s v g c:=by
 obtain⟨k,G,C,f,l,d,a,e,j⟩:=h;exact⟨k,G,C,f,l,d.below b,λi hi=>⟨(a i hi).1,(a i hi).2.1,(a i hi).2.2.1,(a i hi).2.2.2.below b⟩,e,j⟩
theorem Cl.lt{g:List Nat}(h:Cl A s v g w):∀x∈g,x<w.heap.size:=by
 obtain⟨e,G,C,d,f,b,a,c,rfl⟩:=h;intro x hx;obtain⟨i,hi,rfl⟩:=List.mem_map.1 hx;exact(a i (List.mem_range.1 hi)).2.2.2.lt
def kg(A:Nat)(r:Rw)(v:Value)(g:List Nat)(wk:World):Prop:=∃B c,g=[B]/\v = .slice (some ⟨B,0,none⟩) r.n c/\A<=B/\r.n<=c/\c<=maxLen/\Blk wk B 3 r.n (λj => .int .i64 (r.z j))
theorem kg.below{r:Rw}{g:List Nat}(h:kg A r v g w)(k:Below w.heap.size w a):kg A r v g a:=by
 obtain⟨B,c,f,j,d,b,e,i⟩:=h;exact⟨B,c,f,j,d,b,e,i.below k⟩
theorem kg.lt{r:Rw}{g:List Nat}(h:kg A r v g w):∀x∈g,x<w.heap.size:=by
 obtain⟨B,c,rfl,e,d,b,f,a⟩:=h;intro x hx;rw[List.mem_singleton] at hx;subst hx;exact a.lt
def DHs(A:Nat)(e:TypeId)(s:Hs)(v:Value)(g:List Nat)(wk:World):Prop:=∃s':Hs,g=[]/\v = .slice s'.a s'.n s'.c/\pi A e s wk s'
theorem DHs.below{s:Hs}{g:List Nat}(h:DHs A e s v g w)(b:Below w.heap.size w a):DHs A e s v g a:=by
 obtain⟨j,l,i,f,c,k,d⟩:=h;exact⟨j,l,i,f,c,k.below b,d.below b⟩
theorem j7.below{j:World}{s:Os}(h:j7 A w s)(f:Below w.heap.size w j):j7 A j s:=by
 refine⟨h.le,h.cap,λk => ?_,λi hi => ?_,h.apart,h.room.below f⟩
 .obtain⟨g,a,b,c⟩:=h.list k;exact⟨g,a,b,c.below f⟩
 obtain⟨B,a,b,c,d,e⟩:=h.lines i hi;exact⟨B,a,b,c,d,e.below f⟩
theorem j7.mono{d:Nat}{s:Os}(h:j7 A w s)(f:d<=A):j7 d w s:=by
 refine⟨h.le,h.cap,λe => ?_,λi hi => ?_,h.apart,h.room.mono f⟩
 .obtain⟨g,a,b,c⟩:=h.list e;exact⟨g,a,by omega,c⟩
 obtain⟨B,a,b,c⟩:=h.lines i hi;exact⟨B,a,by omega,c⟩
def DOs(A:Nat)(s:Os)(v:Value)(g:List Nat)(wk:World):Prop:=∃s':Os,g=[]/\v = .slice s'.a s'.n s'.c/\Tw s' s/\j7 A wk s'
theorem DOs.below{s:Os}{g:List Nat}(h:DOs A s v g w)(f:Below w.heap.size w a):DOs A s v g a:=by
 obtain⟨e,i,d,c,b⟩:=h;exact⟨e,i,d,c,b.below f⟩
theorem nf(p:Pl)(s:St)(w:World)(hs:s.At w)(f:cw p s):
  Calls prog 51 #[s.val] w λe u=>∃J:St,e = .returned J.val/\ae J s/\ai w.heap.size u J/\Below w.heap.size w u:=by
 obtain⟨W0,hW,ar,X0,Z0⟩:∃W,((w.alloc (.cells s.cells 31)).alloc (.cells #[.slice .none 0 0,.slice .none 0 0,.slice .none 0 0,.slice .none 0 0,.slice .none 0 0,.slice .none 0 0,.slice .none 0 0] 31))=W/\Below w.heap.size w W/\Blk W w.heap.size 31 7 (λj=>s.cells.getD j default)/\Blk W (w.heap.size+1) 31 7 (λ_ => .slice .none 0 0):=
  ⟨_,rfl,j8 _ _ _,(Blk.mk' rfl rfl).alloc _,(Blk.mk' (cur:=#[.slice .none 0 0,.slice .none 0 0,.slice .none 0 0,.slice .none 0 0,.slice .none 0 0,.slice .none 0 0,.slice .none 0 0]) (by simp) rfl).congr (λj S=>by match j,S with|0,_=>rfl|1,_=>rfl|2,_=>rfl|3,_=>rfl|4,_=>rfl|5,_=>rfl|6,_=>rfl)⟩
 have HW:Hid ((w.alloc (.cells #[.slice s.on.a s.on.n s.on.c,.slice s.os.a s.os.n s.os.c,.slice s.hs.a s.hs.n s.hs.c,.slice s.ms.a s.ms.n s.ms.c,.slice s.si.a s.si.n s.si.c,.slice s.so.a s.so.n s.so.c,.slice s.sf.a s.sf.n s.sf.c] 31)).alloc (.cells #[.slice .none 0 0,.slice .none 0 0,.slice .none 0 0,.slice .none 0 0,.slice .none 0 0,.slice .none 0 0,.slice .none 0 0] 31)=W0):=hW;have HS:=hid (hs.below ar);have t:=hid f;have HZ:=hid Z0;have c7:=ar.size;obtain⟨l1,c0,c1,c2,c3,c4,c5,c6⟩:=Boxed.of X0;have r0:=Qqq c0;have r1:=Qqq c1;have r2:=Qqq c2;have r3:=Qqq c3;have r4:=Qqq c4;have r5:=Qqq c5;have r6:=Qqq c6;clear hW X0 Z0 hs f c0 c1 c2 c3 c4 c5 c6;unfold St.val;go_enter func51,ntmps51;go_wp2_with fail;rw[HW.out];refine jt (λu=>∃p:Regrown,u=grow (redrawn W0 p.d) p.os) [0,1,3,4,6,7,9,10,12,13,15,16,18,19] [2,5,8,11,14,17,20] [(false,21),(true,22)] (Qqx (brf.drew)) ?_;simp only[dw,Qyq,Xqq,Qyx,Qyz,Xqz,Xqx]
 repeat(go_big_quiet_step(fail))
 refine Qqz ?_;clear r0 r1 r2 r3 r4 r5 r6;refine⟨λj v g k=>match j with|2=>Cl w.heap.size s v g k|5=>DOs w.heap.size s.os v g k|8=>DHs w.heap.size 103 s.hs v g k|11=>DHs w.heap.size 77 s.ms v g k|14=>kg w.heap.size s.si v g k|17=>kg w.heap.size s.so v g k|20=>kg w.heap.size s.sf v g k|_=>True,
  Qjx ⟨λv g w u F h=>Cl.below h F,Qjx ⟨λv g w u F h=>DOs.below h F,Qjx ⟨λv g w u F h=>DHs.below h F,Qjx ⟨λv g w u F h=>DHs.below h F,Qjx ⟨λv g w u F h=>kg.below h F,Qjx ⟨λv g w u F h=>kg.below h F,Qjx ⟨λv g w u F h=>kg.below h F,Qjq _⟩⟩⟩⟩⟩⟩⟩,
  Qjx ⟨λv g w h=>Cl.lt h,Qjx ⟨λv g w h=>by obtain⟨_,h1,_⟩:=h;rw[h1];intro x hx;simp at hx,Qjx ⟨λv g w h=>by obtain⟨_,h1,_⟩:=h;rw[h1];intro x hx;simp at hx,Qjx ⟨λv g w h=>by obtain⟨_,h1,_⟩:=h;rw[h1];intro x hx;simp at hx,Qjx ⟨λv g w h=>kg.lt h,Qjx ⟨λv g w h=>kg.lt h,Qjx ⟨λv g w h=>kg.lt h,Qjq _⟩⟩⟩⟩⟩⟩⟩,
  Qjx ⟨?zs2,Qjx ⟨?zs5,Qjx ⟨?zs8,Qjx ⟨?zs11,Qjx ⟨?zs14,Qjx ⟨?zs17,Qjx ⟨?zs20,Qjq _⟩⟩⟩⟩⟩⟩⟩,?zdone⟩
 case zs2 =>
  intro V G k K B hd y;have l:=af B;refine ay 2 rfl ?_;simp only[ap,bu,Qvz,Qwq,Qvx,Act.put,Qvq,Qwx,Qwz] at y ⊢;go_wp2_with fail;refine(Ip s.on k (HS.out.on.below l) (by rw[t.out.sh.n];exact t.out.sh.pl.nb6) (λi hi=>by rw[t.out.sh.len i hi];exact⟨t.out.sh.pl.ns1,t.out.sh.pl.ns3⟩)).mono ?_;rintro e w2 ⟨X,Q,Cr,rfl,a1,L,P,U,m⟩;go_wp2_with fail;have q:=l.size;refine y _ ((List.range s.on.n).map Q) _ (Qqx (l.trans (m.mono l.size))) m (λx hx => ?_) ⟨X,Q,Cr,rfl,by omega,L,λi hi=>⟨by have:=(P i hi).1;omega,(P i hi).2⟩,U,rfl⟩;obtain⟨i,hi,rfl⟩:=List.mem_map.1 hx;have:=(P i (List.mem_range.1 hi)).1;omega
 case zs5 =>
  intro V G k K B hd y;have l:=af B;refine ay 5 rfl ?_;simp only[ap,bu,Qvz,Qwq,Qvx,Act.put,Qvq,Qwx,Qwz] at y ⊢;go_wp2_with fail;refine(Nh s.os k (HS.out.os.below l) (by have:=t.out.os4;omega) t.out.lns).mono ?_;rintro e w2 ⟨J,rfl,a1,L,m⟩;have q:=l.size;have HR:Hid (Tw J s.os/\j7 w.heap.size w2 J):=⟨a1,L.mono (by omega)⟩;clear a1 L;simp only[Os.val];go_wp2_with fail;exact y _ [] _ (Qqx (l.trans (m.mono l.size))) m (λx hx=>by simp at hx) ⟨J,rfl,rfl,HR.out.1,HR.out.2⟩
 case zs8 =>
  intro V G k K B hd y;have l:=af B;refine ay 8 rfl ?_;simp only[ap,bu,Qvz,Qwq,Qvx,Act.put,Qvq,Qwx,Qwz] at y ⊢;go_wp2_with fail;refine(Pe s.hs k (HS.out.hs.below l) (by have:=t.out.hs72;omega)).mono ?_;rintro e w2 ⟨J,rfl,hc,m⟩;have q:=l.size;have HR:Hid (pi w.heap.size 103 s.hs w2 J):=⟨hc.1,hc.2.1,hc.2.2.1.mono (by omega),hc.2.2.2.mono (by omega)⟩;clear hc;simp only[Hs.val];go_wp2_with fail;exact y _ [] _ (Qqx (l.trans (m.mono l.size))) m (λx hx=>by simp at hx) ⟨J,rfl,rfl,HR.out⟩
 case zs11 =>
  intro V G k K B hd y;have l:=af B;refine ay 11 rfl ?_;simp only[ap,bu,Qvz,Qwq,Qvx,Act.put,Qvq,Qwx,Qwz] at y ⊢;go_wp2_with fail;refine(Po s.ms k (HS.out.ms.below l) (by have:=t.out.ms8;omega)).mono ?_;rintro e w2 ⟨J,rfl,hc,m⟩;have q:=l.size;have HR:Hid (pi w.heap.size 77 s.ms w2 J):=⟨hc.1,hc.2.1,hc.2.2.1.mono (by omega),hc.2.2.2.mono (by omega)⟩;clear hc;simp only[Hs.val];go_wp2_with fail;exact y _ [] _ (Qqx (l.trans (m.mono l.size))) m (λx hx=>by simp at hx) ⟨J,rfl,rfl,HR.out⟩
 case zs14 =>
  intro V G k K B hd y;have l:=af B;have bc:=t.out.sh.pl.ns1;have be:=t.out.sh.pl.ns3;have ag:Hid (Calls prog 101 #[.slice s.si.a s.si.n s.si.c] k λe u=>∃g A,e = .returned (.slice (some ⟨g,0,none⟩) s.si.n A)/\s.si.n<=A/\A<=maxLen/\k.heap.size<=g/\Blk u g 3 s.si.n (λj => .int .i64 (s.si.z j))/\Below k.heap.size k u):=by
   have hr:=HS.out.si.below l;obtain⟨b,o,ha,-,-⟩:=hr.ints 0 (by rw[t.out.sin];omega);have hi:=hr.ints;have hz:s.si.n=p.ns:=t.out.sin;rw[ha] at hi;have:=Dn b o s.si.n s.si.c s.si.z k (by omega) (by omega) hi;rw[<-ha] at this;exact this
  refine ay 14 rfl ?_;simp only[ap,bu,Qvz,Qwq,Qvx,Act.put,Qvq,Qwx,Qwz] at y ⊢;go_wp2_with fail;refine ag.out.mono ?_;rintro e w2 ⟨g,A,rfl,a1,L,P,U,m⟩;have q:=l.size;go_wp2_with fail;exact y _ [g] _ (Qqx (l.trans (m.mono l.size))) m (λx hx=>by rw[List.mem_singleton] at hx;omega) ⟨g,A,rfl,rfl,by omega,a1,L,U⟩
 case zs17 =>
  intro V G k K B hd y;have l:=af B;have bc:=t.out.sh.pl.ns1;have be:=t.out.sh.pl.ns3;have ag:Hid (Calls prog 101 #[.slice s.so.a s.so.n s.so.c] k λe u=>∃g A,e = .returned (.slice (some ⟨g,0,none⟩) s.so.n A)/\s.so.n<=A/\A<=maxLen/\k.heap.size<=g/\Blk u g 3 s.so.n (λj => .int .i64 (s.so.z j))/\Below k.heap.size k u):=by
   have hr:=HS.out.so.below l;obtain⟨b,o,ha,-,-⟩:=hr.ints 0 (by rw[t.out.son];omega);have hi:=hr.ints;have hz:s.so.n=p.ns:=t.out.son;rw[ha] at hi;have:=Dn b o s.so.n s.so.c s.so.z k (by omega) (by omega) hi;rw[<-ha] at this;exact this
  refine ay 17 rfl ?_;simp only[ap,bu,Qvz,Qwq,Qvx,Act.put,Qvq,Qwx,Qwz] at y ⊢;go_wp2_with fail;refine ag.out.mono ?_;rintro e w2 ⟨g,A,rfl,a1,L,P,U,m⟩;have q:=l.size;go_wp2_with fail;exact y _ [g] _ (Qqx (l.trans (m.mono l.size))) m (λx hx=>by rw[List.mem_singleton] at hx;omega) ⟨g,A,rfl,rfl,by omega,a1,L,U⟩
 case zs20 =>
  intro V G k K B hd y;have l:=af B;have bc:=t.out.sh.pl.ns1;have be:=t.out.sh.pl.ns3;have ag:Hid (Calls prog 101 #[.slice s.sf.a s.sf.n s.sf.c] k λe u=>∃g A,e = .returned (.slice (some ⟨g,0,none⟩) s.sf.n A)/\s.sf.n<=A/\A<=maxLen/\k.heap.size<=g/\Blk u g 3 s.sf.n (λj => .int .i64 (s.sf.z j))/\Below k.heap.size k u):=by
   have hr:=HS.out.sf.below l;obtain⟨b,o,ha,-,-⟩:=hr.ints 0 (by rw[t.out.sfn];omega);have hi:=hr.ints;have hz:s.sf.n=p.ns:=t.out.sfn;rw[ha] at hi;have:=Dn b o s.sf.n s.sf.c s.sf.z k (by omega) (by omega) hi;rw[<-ha] at this;exact this
  refine ay 20 rfl ?_;simp only[ap,bu,Qvz,Qwq,Qvx,Act.put,Qvq,Qwx,Qwz] at y ⊢;go_wp2_with fail;refine ag.out.mono ?_;rintro e w2 ⟨g,A,rfl,a1,L,P,U,m⟩;have q:=l.size;go_wp2_with fail;exact y _ [g] _ (Qqx (l.trans (m.mono l.size))) m (λx hx=>by rw[List.mem_singleton] at hx;omega) ⟨g,A,rfl,rfl,by omega,a1,L,U⟩
 case zdone =>
  intro V G k B hD hA;obtain⟨X,Q,Cr,v2,a1,L,P,U,bf⟩:Cl w.heap.size s (V 2) (G 2) k:=hD 2 (by simp);obtain⟨E,-,v5,b1,b2⟩:DOs w.heap.size s.os (V 5) (G 5) k:=hD 5 (by simp);obtain⟨D,-,v8,d1,d2,d3,-⟩:DHs w.heap.size 103 s.hs (V 8) (G 8) k:=hD 8 (by simp);obtain⟨m',-,a0,f1,f2,f3,f4⟩:DHs w.heap.size 77 s.ms (V 11) (G 11) k:=hD 11 (by simp);obtain⟨H,k1,Y,a6,i1,i2,i3,i4⟩:kg w.heap.size s.si (V 14) (G 14) k:=hD 14 (by simp);obtain⟨M,k2,ac,a8,j1,j2,j3,j4⟩:kg w.heap.size s.so (V 17) (G 17) k:=hD 17 (by simp);obtain⟨T,k3,ab,a9,l2,l3,l4,l5⟩:kg w.heap.size s.sf (V 20) (G 20) k:=hD 20 (by simp);have a7:H≠M:=λe=>hA 14 (by simp) 17 (by simp) (by decide) H (by rw[Y];simp) (by rw[ac,e];simp);have bd:H≠T:=λe=>hA 14 (by simp) 20 (by simp) (by decide) H (by rw[Y];simp) (by rw[ab,e];simp);have a5:M≠T:=λe=>hA 17 (by simp) 20 (by simp) (by decide) M (by rw[ac];simp) (by rw[ab,e];simp);have nr:∀i,i<s.on.n->Q i≠H/\Q i≠M/\Q i≠T:=λi hi=>by
   have hm:Q i∈G 2:=by rw[bf];exact List.mem_map.2 ⟨i,List.mem_range.2 hi,rfl⟩
   exact⟨λe=>hA 2 (by simp) 14 (by simp) (by decide) _ hm (by rw[Y,e];simp),λe=>hA 2 (by simp) 17 (by simp) (by decide) _ hm (by rw[ac,e];simp),λe=>hA 2 (by simp) 20 (by simp) (by decide) _ hm (by rw[ab,e];simp)⟩
  have l:=af B;have hz:=HZ.out.below l;clear hD hA bf Y ac ab;have HR:Hid (ai w.heap.size k ⟨⟨some ⟨X,0,none⟩,s.on.n,s.on.n,λi=>⟨some ⟨Q i,0,none⟩,(s.on.r i).n,Cr i,(s.on.r i).z⟩⟩,E,D,m',⟨some ⟨H,0,none⟩,s.si.n,k1,s.si.z⟩,⟨some ⟨M,0,none⟩,s.so.n,k2,s.so.z⟩,⟨some ⟨T,0,none⟩,s.sf.n,k3,s.sf.z⟩⟩):=by
   refine⟨⟨X,rfl,a1,Nat.le_refl _,?_,L⟩,λi hi=>⟨Q i,rfl,(P i hi).1,(P i hi).2.1,(P i hi).2.2.1,(P i hi).2.2.2⟩,λi j bp S => ?_,b2,d3,f3,f4,⟨H,rfl,i1,i2,i3,i4⟩,⟨M,rfl,j1,j2,j3,j4⟩,⟨T,rfl,l2,l3,l4,l5⟩,?_,?_,?_,λi hi => ?_⟩
   .show s.on.n<=maxLen;have:=t.out.sh.n;have:=t.out.sh.pl.nb6;unfold maxLen;omega
   .have:=U i j bp S;simp only[ne_eq,Qkx,Qkz,and_true];omega
   .intro e;simp only[Qkx,Qkz,and_true] at e;exact a7 e
   .intro e;simp only[Qkx,Qkz,and_true] at e;exact bd e
   .intro e;simp only[Qkx,Qkz,and_true] at e;exact a5 e
   obtain⟨x1,x2,x3⟩:=nr i hi;exact⟨λe=>by simp only[Qkx,Qkz,and_true] at e;exact x1 e,λe=>by simp only[Qkx,Qkz,and_true] at e;exact x2 e,λe=>by simp only[Qkx,Qkz,and_true] at e;exact x3 e⟩
  have HC:Hid (ae ⟨⟨some ⟨X,0,none⟩,s.on.n,s.on.n,λi=>⟨some ⟨Q i,0,none⟩,(s.on.r i).n,Cr i,(s.on.r i).z⟩⟩,E,D,m',⟨some ⟨H,0,none⟩,s.si.n,k1,s.si.z⟩,⟨some ⟨M,0,none⟩,s.so.n,k2,s.so.z⟩,⟨some ⟨T,0,none⟩,s.sf.n,k3,s.sf.z⟩⟩ s):=
   ⟨⟨rfl,λi hi=>⟨rfl,λj S=>rfl⟩⟩,b1,⟨d1,λj S=>d2 j (by rw[<-d1];exact S)⟩,⟨f1,λj S=>f2 j (by rw[<-f1];exact S)⟩,⟨rfl,λj S=>rfl⟩,⟨rfl,λj S=>rfl⟩,⟨rfl,λj S=>rfl⟩⟩
  clear a1 L P U b1 b2 d1 d2 d3 f1 f2 f3 f4 i1 i2 i3 i4 j1 j2 j3 j4 l2 l3 l4 l5 a7 bd a5 nr;have ba:=hid hz;obtain⟨zl,bv,b0,ca,zc1,cb,zc2,bj,zc3,cg,zc4,bm,zc5,cl,bq⟩:=z7 hz;clear hz;simp only[ap,bu,Qvz,Qwq,Qvx,Act.put,Qvq,Qwx,Qwz,v2,v5,v8,a0,a6,a8,a9];refine dk 21 rfl ?_;go_wp2_with fail;refine⟨jq.no B,?_⟩;refine dk 22 rfl ?_;go_wp2_with fail;refine⟨jq.yes,?_⟩;refine NoPanic.normal ?_;have KZ:=rp ba.out (.slice (some ⟨X,0,none⟩) s.on.n s.on.n) (.slice E.a E.n E.c) (.slice D.a D.n D.c) (.slice m'.a m'.n m'.c) (.slice (some ⟨H,0,none⟩) s.si.n k1) (.slice (some ⟨M,0,none⟩) s.so.n k2) (.slice (some ⟨T,0,none⟩) s.sf.n k3);have bb:=na (b:=w.heap.size+1) (ar.trans (l.mono ar.size)) (by omega) (.slice (some ⟨X,0,none⟩) s.on.n s.on.n) (.slice E.a E.n E.c) (.slice D.a D.n D.c) (.slice m'.a m'.n m'.c) (.slice (some ⟨H,0,none⟩) s.si.n k1) (.slice (some ⟨M,0,none⟩) s.so.n k2) (.slice (some ⟨T,0,none⟩) s.sf.n k3);have aw:=ai.set7 HR.out ba.out (.slice (some ⟨X,0,none⟩) s.on.n s.on.n) (.slice E.a E.n E.c) (.slice D.a D.n D.c) (.slice m'.a m'.n m'.c) (.slice (some ⟨H,0,none⟩) s.si.n k1) (.slice (some ⟨M,0,none⟩) s.so.n k2) (.slice (some ⟨T,0,none⟩) s.sf.n k3);unfold set7 at KZ bb aw
  generalize (((((((k.setCell { block:=w.heap.size+1,off:=0 } (Value.slice (some { block:=X,off:=0 }) s.on.n s.on.n)).setCell { block:=w.heap.size+1,off:=1 } (Value.slice E.a E.n E.c)).setCell { block:=w.heap.size+1,off:=2 } (Value.slice D.a D.n D.c)).setCell { block:=w.heap.size+1,off:=3 } (Value.slice m'.a m'.n m'.c)).setCell { block:=w.heap.size+1,off:=4 } (Value.slice (some { block:=H,off:=0 }) s.si.n k1)).setCell { block:=w.heap.size+1,off:=5 } (Value.slice (some { block:=M,off:=0 }) s.so.n k2)).setCell { block:=w.heap.size+1,off:=6 } (Value.slice (some { block:=T,off:=0 }) s.sf.n k3))=WY at *
  clear l zl bv b0 ca zc1 cb zc2 bj zc3 cg zc4 bm zc5 cl bq v2 v5 v8 a0 a6 a8 a9 B;obtain⟨c0,c1,c2,c3,c4,c5,c6⟩:=co KZ;have HQ:=hid aw;clear aw;go_wp2_with fail;refine Xzq (v:=(⟨⟨some ⟨X,0,none⟩,s.on.n,s.on.n,λi=>⟨some ⟨Q i,0,none⟩,(s.on.r i).n,Cr i,(s.on.r i).z⟩⟩,E,D,m',⟨some ⟨H,0,none⟩,s.si.n,k1,s.si.z⟩,⟨some ⟨M,0,none⟩,s.so.n,k2,s.so.z⟩,⟨some ⟨T,0,none⟩,s.sf.n,k3,s.sf.z⟩⟩:St).val) (by simp[results,results51,go_sem,St.val,c0,c1,c2,c3,c4,c5,c6]) rfl ?_;exact⟨_,rfl,HC.out,HQ.out,bb⟩
theorem ai.mono{e:Nat}(h:ai A w s)(d:e<=A):ai e w s:=by
 have i:∀{r:Rw},j6 A w r->j6 e w r:=λ⟨g,a,b,c⟩=>⟨g,a,Qzx d b,c⟩;refine⟨?_,λj f=>i (h.rows j f),h.rapart,h.os.mono d,h.hs.mono d,h.ms.mono d,h.msr.mono d,i h.si,i h.so,i h.sf,h.aio,h.aif,h.aof,h.ari⟩;obtain⟨g,a,b,c⟩:=h.on;exact⟨g,a,Qzx d b,c⟩
theorem s7o(h:ai A w s)(d:Blk w b 31 7 f)(y:St):ai A (set7 w b (.slice y.on.a y.on.n y.on.c) (.slice y.os.a y.os.n y.os.c) (.slice y.hs.a y.hs.n y.hs.c) (.slice y.ms.a y.ms.n y.ms.c) (.slice y.si.a y.si.n y.si.c) (.slice y.so.a y.so.n y.so.c) (.slice y.sf.a y.sf.n y.sf.c)) s:=ai.set7 h d (.slice y.on.a y.on.n y.on.c) (.slice y.os.a y.os.n y.os.c) (.slice y.hs.a y.hs.n y.hs.c) (.slice y.ms.a y.ms.n y.ms.c) (.slice y.si.a y.si.n y.si.c) (.slice y.so.a y.so.n y.so.c) (.slice y.sf.a y.sf.n y.sf.c)
theorem Xr{c:Array Oper}{T:Nat->Bool}{b:List Nat}{D:Nat->Value->List Nat->World->Prop}{fuel:Nat}(hB:ut c b L=true)(hT:∀r∈b,T r=false)
  (mono:∀j∈b,∀v g w B,Below w.heap.size w B->D j v g w->D j v g B) (lt:∀j∈b,∀v g w,D j v g w->∀x∈g,x<w.heap.size)
  (step:∀i∈b,∀(V:Nat->Value) (G:Nat->List Nat) (w:World) (K:Act->World->Prop),S w->(∀d∈ja c i,d∈b->D d (V d) (G d) w)->(∀d∈ja c i,∀k∈ja c i,d∈b->k∈b->d≠k->∀x∈G d,x ∉ G k) ->
   (∀v g B,S B->Below w.heap.size w B->(∀x∈g,w.heap.size<=x)->D i v g B->K ((ap c b V a1).put (bu c i) v) B)->wpOp P c Q i K (ap c b V a1) w)
  (done:∀(V:Nat->Value) (G:Nat->List Nat) (w:World),S w->(∀j∈b,D j (V j) (G j) w)->(∀j∈b,∀k∈b,j≠k->∀x∈G j,x ∉ G k)->nk P c Q S T fuel (ip L b) (ap c b V a1) w) :
  ∀(m:Nat) (a:Array Bool) (V:Nat->Value) (G:Nat->List Nat) (w:World),(b.filter (λr => !a.getD r true)).length=m->a.size=c.size->(∀j,j ∉ b->a[j]?=L[j]?)->ni c a->S w->(∀j∈b,a.getD j true=true->D j (V j) (G j) w) ->
   (∀j∈b,∀k∈b,a.getD j true=true->a.getD k true=true->j≠k->∀x∈G j,x ∉ G k)->nk P c Q S T (m+fuel) a (ap c b V a1) w:=by
 simp only[ut,Xxx,decide_eq_true_eq] at hB;obtain⟨⟨⟨⟨ay,ai⟩,ax⟩,bk⟩,ak⟩:=hB;have s:∀r∈b,r<c.size/\L.getD r true=false:=λr hr=>by
  have:=List.all_eq_true.1 ax r hr
  simpa using this
 intro m
 induction m with
 | zero =>
  intro a V G w hm W F ah hS hD hA;have A:∀r∈b,a.getD r true=true:=λr hr=>by
   cases hq:a.getD r true
   .have:r∈b.filter (λr => !a.getD r true):=List.mem_filter.2 ⟨hr,by simp[hq]⟩;rw[List.length_eq_zero_iff.1 hm] at this;simp at this
   rfl
  have hl:a=ip L b:=by
   apply Array.ext_getElem?
   intro j;by_cases f:j<L.size
   .rw[Az b L j f];by_cases U:j∈b
    .rw[if_pos U];have p:=A j U;have l:j<a.size:=by omega
     simp only[Array.getD,l,dif_pos] at p;simp[l];exact p
    rw[if_neg U];exact F j U
   rw[Array.getElem?_eq_none (by omega),Array.getElem?_eq_none (by rw[zj];omega)]
  rw[Nat.zero_add,hl];exact done V G w hS (λj f=>hD j f (A j f)) λj f k J=>hA j f k J (A j f) (A k J)
 | succ m ih =>
  intro a V G w hm W F ah hS hD hA;have an:∃r∈b,a.getD r true=false:=by
   have a8:b.filter (λr => !a.getD r true)≠[]:=λe=>by rw[e] at hm;simp at hm
   obtain⟨x,hx⟩:=List.exists_mem_of_ne_nil _ a8;have:=List.mem_filter.1 hx;exact⟨x,this.1,by simpa using this.2⟩
  have a4:∀d,L.getD d false=true->a.getD d false=true:=λd hd=>by
   by_cases u:d∈b
   .have p:=(s d u).2;have l:d<L.size:=by have:=(s d u).1;omega
    simp only[Array.getD,l,dif_pos] at p hd;rw[p] at hd;cases hd
   have p:=F d u;by_cases l:d<L.size
   .have h3:d<a.size:=by omega
    simp only[Array.getD,l,h3,dif_pos] at hd ⊢;simp only[Array.getElem?_eq_getElem l,Array.getElem?_eq_getElem h3,Qkx] at p;rw[Array.getInternal_eq_getElem] at hd ⊢;rw[p];exact hd
   simp[Array.getD,l] at hd
  obtain⟨r0,bj,au⟩:=xj W [] b ai a4 (λd hd=>by simp at hd) (λr hr=>(s r hr).1) an;rw[Nat.add_right_comm];refine⟨λh0=>absurd (h0▸au) (by simp),λi hi => ?_⟩;obtain⟨Y,o,ho,aq⟩:=mem_ready.1 hi;have E:∀d∈ja c i,a.getD d false=true:=λd hd=>by
   unfold ja at hd;rw[ho] at hd;obtain⟨e,he,rfl⟩:=List.mem_map.1 hd;have:=List.mem_filter.1 he;exact aq e (by simpa using this.1) this.2
  have X:∀d,a.getD d false=true->a.getD d true=true:=λd hd=>by
   by_cases l:d<a.size
   .simpa[Array.getD,l] using hd
   simp[Array.getD,l]
  have H:i∈b:=by
   cases hc:b.contains i;rotate_left
   .exact Qjz hc
   exfalso;have a2:i<c.size:=(Qkq ho).1;have ba:i ∉ b:=λh=>by
    have:=List.contains_iff_mem.2 h;rw[this] at hc;cases hc
   have p:=List.all_eq_true.1 ay i (List.mem_range.2 a2);have a0:L.getD i true=false:=by
    have l:=F i ba;have h3:i<L.size:=by omega
    have h4:i<a.size:=by omega
    simp only[Array.getElem?_eq_getElem h3,Array.getElem?_eq_getElem h4,Qkx] at l;simp only[Array.getD,h3,h4,dif_pos] at Y ⊢;rw[Array.getInternal_eq_getElem] at Y ⊢;rw[<-l];exact Y
   rw[a0,hc] at p;simp only[Bool.false_or] at p;obtain⟨q,hq,a5⟩:=an;have h5:=List.all_eq_true.1 p q hq;have h6:=X q (wn ah _ i q (Aa hi) h5);rw[a5] at h6;cases h6
  refine step i H V G w _ hS (λd hd u=>hD d u (X d (E d hd))) (λd hd k J u a6=>hA d u k a6 (X d (E d hd)) (X k (E k J))) (λv g B am aw ao bd => ?_);refine⟨λ_=>am,?_⟩;rw[xv ak H];have a9:i<a.size:=by rw[W];exact(s i H).1
  have t:∀j,(a.setIfInBounds i true).getD j true=if j=i then true else a.getD j true:=λj=>by
   by_cases f:j=i
   .subst f;simp[Array.getD,a9]
   rw[if_neg f,getD_set_ne true (λe=>f e.symm)]
  refine ih (a.setIfInBounds i true) (upd V i v) (λj=>if j=i then g else G j) B ?_ (by simpa using W) (λj f => ?_) (ah.set hi) am (λj f y => ?_) (λj f k J y M al x hx => ?_)
  .have af:b.Nodup:=by
    exact(List.pairwise_map.1 ak).imp (λh e=>h (by rw[e]))
   have e1:(b.filter (λr => !a.getD r true))=b.filter (λr => !a.getD r true):=rfl;have ag:(b.filter (λr => !(a.setIfInBounds i true).getD r true))=(b.filter (λr => !a.getD r true)).erase i:=by
    have e2:b.filter (λr => !(a.setIfInBounds i true).getD r true)=(b.filter (λr => !a.getD r true)).filter (λr=>r !=i):=by
     rw[List.filter_filter];refine List.filter_congr λx hx => ?_;rw[t x];by_cases az:x=i<;>simp[az]
    rw[e2,<-List.Nodup.erase_eq_filter (af.filter _)]
   rw[ag,List.length_erase_of_mem (List.mem_filter.2 ⟨H,by simp[Y]⟩),hm]
   rfl
  .rw[Array.getElem?_setIfInBounds,if_neg (λe:i=j=>f (by rw[<-e];exact H))];exact F j f
  .unfold upd;by_cases n:j=i
   .subst n;rw[if_pos rfl,if_pos rfl];exact bd
   rw[if_neg n,if_neg n];rw[t j,if_neg n] at y;exact mono j f _ _ _ _ aw (hD j f y)
  by_cases n:j=i
  .have z:¬k=i:=λe=>al (n.trans e.symm);rw[if_pos n] at hx;rw[if_neg z];rw[t k,if_neg z] at M;intro ad;have p:=ao x hx;have l:=lt k J _ _ _ (hD k J M) x ad;omega
  rw[if_neg n] at hx;rw[t j,if_neg n] at y;by_cases z:k=i
  .rw[if_pos z];intro ad;have p:=ao x ad;have l:=lt j f _ _ _ (hD j f y) x hx;omega
  rw[if_neg z];rw[t k,if_neg z] at M;exact hA j f k J y M al x hx
def ab9(P:Program)(ops:Array Oper)(Q:Exit->Act->World->Prop)(S:World->Prop)(rem:List Nat)(ord:List (Bool × Nat))(a1:Act):Prop :=
 ∃D:Nat->Value->List Nat->World->Prop,(∀j∈rem,∀v g w w',Below w.heap.size w w'->D j v g w->D j v g w')/\(∀j∈rem,∀v g w,D j v g w->∀x∈g,x<w.heap.size) /\
  (∀i∈rem,∀(V:Nat->Value) (G:Nat->List Nat) (w:World) (K:Act->World->Prop),S w->(∀d∈ja ops i,d∈rem->D d (V d) (G d) w)->(∀d∈ja ops i,∀k∈ja ops i,d∈rem->k∈rem->d≠k->∀x∈G d,x ∉ G k) ->
   (∀v g w',S w'->Below w.heap.size w w'->(∀x∈g,w.heap.size<=x)->D i v g w'->K ((ap ops rem V a1).put (bu ops i) v) w')->wpOp P ops (NoPanic Q) i K (ap ops rem V a1) w) /\
  (∀(V:Nat->Value) (G:Nat->List Nat) (w:World),S w->(∀j∈rem,D j (V j) (G j) w)->(∀j∈rem,∀k∈rem,j≠k->∀x∈G j,x ∉ G k)->I4 P ops (NoPanic Q) S ord (ap ops rem V a1) w)
def S6(ops:Array Oper)(ks rem:List Nat)(ord:List (Bool × Nat)):Bool :=
 ks.all (λk => !ord.contains (true,k)&&ord.all (λx => !x.1||rv ops ops.size x.2 k))&&rem.all (λr => !ord.contains (true,r))&&ord.all (λx=>x.1 || !ord.contains (true,x.2))
theorem td{l:List Oper}{a:Act}(S:World->Prop)(e b:List Nat)(d:List (Bool × Nat))(A:S w.drew)(h:wpQuiet P l.toArray S (ab9 P l.toArray Q S b d) (dw l e) a)(K:P.follows .mixedOrders=true:=by kernel_rfl)(hs:Region.noSelect l.toArray=true:=by kernel_rfl)(X:se l.toArray e (Array.replicate l.length false)=true:=by kernel_rfl)(z:e.all (λk=>decide (k<l.length))=true:=by kernel_rfl)(J:((dw l e).all yf)=true:=by kernel_rfl)(F:ut l.toArray b (ip (Array.replicate l.length false) e)=true:=by kernel_rfl)(n:S6 l.toArray e b d=true:=by kernel_rfl)(M:Ka l.toArray d (ip (ip (Array.replicate l.length false) e) b)=true:=by kernel_rfl)(Y:e.length+(b.length+d.length)=l.length:=by kernel_rfl):(Code.region R l.toArray true).wp P Q a w:=by
 refine wp_region_noPanic (wp_region_any K ?_);have m:=F;simp only[ut,Xxx,decide_eq_true_eq] at m;simp only[S6,Xxx] at n;have hT:∀j,(d.contains (true,j))=true->(true,j)∈d:=λj h=>by simpa using h
 have key:=Bz (Q:=NoPanic Q) (T:=λi=>d.contains (true,i)) (N:=l.toArray.size) (fuel:=b.length+d.length) (w:=w.drew) hs A (λc a a' w h=>(h:False).elim) e (dw l e) _ a X (λk x => ?_) (ni.none _ _) (Ao z) J h (λa1 U y => ?_)
 .have:=Ab _ _ _ _ key;rw[Y] at this
  simpa using this
 .have v:=List.all_eq_true.1 n.1.1 k x;simp only[Xxx] at v;refine⟨by simpa using v.1,λj g => ?_⟩;have h2:=List.all_eq_true.1 v.2 (true,j) (hT j g)
  simpa using h2
 obtain⟨D,mono,lt,step,done⟩:=U;have q:(b.filter (λr => !(ip (Array.replicate l.length false) e).getD r true))=b:=by
  rw[List.filter_eq_self];intro r s;have:=List.all_eq_true.1 m.1.1.2 r s;simp only[Xxx] at this;exact this.2
 have o:∀j∈b,(ip (Array.replicate l.length false) e).getD j true=true->False:=λj g f=>by
  have:=List.all_eq_true.1 m.1.1.2 j g;simp only[Xxx,f] at this;simp at this
 obtain⟨u,E⟩:∃u,ap l.toArray b u a1=a1:=⟨_,vd a1 b⟩;have:=Xr (P:=P) (Q:=NoPanic Q) (S:=S) (T:=λi=>d.contains (true,i)) (a1:=a1) (fuel:=d.length) F (λr s=>by have:=List.all_eq_true.1 n.1.2 r s;simpa using this) mono lt step
  (λV G B H L W=>Cm d _ _ B M (λt i p=>by
   cases t with
   | true=>simpa using p
   | false =>
    have:=List.all_eq_true.1 n.2 (false,i) p
    simpa using this) (done V G B H L W))
  b.length (ip (Array.replicate l.length false) e) u (λ_=>[]) w.drew (by rw[q]) m.1.2 (λ_ _=>rfl) y A (λj g f=>(o j g f).elim) (λj g k x f _ _=>(o j g f).elim)
 rw[E] at this;exact this
theorem ny(w:World){k:Array Oper}{rest:List Oper}{o:Oper}{a:Act}(H:o.guard=none)(s x:Operand)(t:TypeId)
  (r:o.op=Op.call { callee:=Callee.builtin Builtin.append,args:=#[s,x],argTypes:=#[t,t] }) (e:TypeId) (i:TypeInfo) (z:Value) (size bytes:Nat) (d:P.underlying t=some (.slice e)) (q:P.info? e=some i) (M:i.zero=some z) (L:i.size=size) (V:i.bytes=bytes)
  (W:z.cells.size=size) (S:0<size) (g:Nat) (hs:a.eval s = .slice (some ⟨g,0,none⟩) 0 0) (f:Option Addr) (m c:Nat) (news:List Value) (hx:a.eval x = .slice f m c) (J:news.length=m*size)
  (hc:∀ad,f=some ad->∀j u,news[j]?=some u->w.cell? (ad.add j)=some u) (F:∀u∈news,u.oneCell'=true) (n:f=none->m=0) (b1:m<=maxLen) (b2:m*bytes<=140737488355328)
  (E:m=0->wpList P k Q rest (a.put o.dst (.slice (some ⟨g,0,none⟩) 0 0)) w) (T:0<m->∀p l,l.ownsRow w.heap.size e size p m news->w.grownBy l none->wpList P k Q rest (a.put o.dst p) l) :
  wpList P k Q (o :: rest) a w:=by
 rcases Nat.eq_zero_or_pos m with D|D
 .subst D;have v:news=[]:=List.eq_nil_of_length_eq_zero (by simpa using J);subst v;have A:Src P i.size t (.slice f 0 c) 0 [] w:=by
   cases f with
   | none=>exact Src.ofNil w d c
   | some ad=>exact Src.ofSlice w d ad 0 c [] (by simp) (λj u B=>by simp at B) (λu U=>by cases U)
  have y:=run_append_nothing (P:=P) w t t o.type e i d q (some ⟨g,0,none⟩) 0 0 nlr _ A;refine wpList_plain H λK G => ?_;unfold Oper.wp;simp[execOp,r,resolve,invoke,builtin,hs,hx,y,Result.andThen];exact G _ _ (E rfl)
 cases f with
 | none=>exact absurd (n rfl) (by omega)
 | some ad =>
  refine wpList_append_grows w H s x t r e i z size bytes d q M L V W S (some ⟨g,0,none⟩) 0 0 [] hs (λh=>by cases h) (by simp) (λb _ j u B=>by simp at B) ad m c news hx J (hc ad rfl) F (by omega) (by omega) (by rw[Nat.zero_add];exact b2) (λp l d q => ?_);rw[Nat.zero_add,Xqx] at d;exact T D p l d q
def H9(A n:Nat)(v:Value)(g:List Nat)(wk:World):Prop:=∃B,g=[B]/\v = .slice (some ⟨B,0,none⟩) n n/\A<=B/\Blk wk B 3 n (λ_ => .int .i64 0)
theorem H9.below{g:List Nat}(h:H9 A n v g w)(e:Below w.heap.size w a):H9 A n v g a:=by
 obtain⟨B,d,f,c,b⟩:=h;exact⟨B,d,f,c,b.below e⟩
theorem H9.lt{g:List Nat}(h:H9 A n v g w):∀x∈g,x<w.heap.size:=by
 obtain⟨B,rfl,c,b,a⟩:=h;intro x hx;rw[List.mem_singleton] at hx;subst hx;exact a.lt
def Cc(A:Nat)(v:Value)(g:List Nat)(wk:World):Prop:=∃B,g=[B]/\v = .pointer (some ⟨B,0,none⟩)/\A<=B/\Blk wk B 31 7 (λ_ => .slice .none 0 0)
theorem Cc.below{g:List Nat}(h:Cc A v g w)(e:Below w.heap.size w a):Cc A v g a:=by
 obtain⟨B,d,f,c,b⟩:=h;exact⟨B,d,f,c,b.below e⟩
theorem Cc.lt{g:List Nat}(h:Cc A v g w):∀x∈g,x<w.heap.size:=by
 obtain⟨B,rfl,c,b,a⟩:=h;intro x hx;rw[List.mem_singleton] at hx;subst hx;exact a.lt
def Re(A n:Nat)(v:Value)(g:List Nat)(wk:World):Prop:=∃B1 B2 B3,g=[]/\v = .agg #[.slice .none 0 0,.slice .none 0 0,.slice .none 0 0,.slice .none 0 0,.slice (some ⟨B1,0,none⟩) n n,.slice (some ⟨B2,0,none⟩) n n,.slice (some ⟨B3,0,none⟩) n n] /\
 (A<=B1/\Blk wk B1 3 n (λ_ => .int .i64 0))/\(A<=B2/\Blk wk B2 3 n (λ_ => .int .i64 0))/\(A<=B3/\Blk wk B3 3 n (λ_ => .int .i64 0))
theorem Re.below{g:List Nat}{b:World}(h:Re A n v g w)(a:Below w.heap.size w b):Re A n v g b:=by
 obtain⟨j,c,d,f,e,⟨a1,i⟩,⟨b1,b2⟩,⟨c1,c2⟩⟩:=h;exact⟨j,c,d,f,e,⟨a1,i.below a⟩,⟨b1,b2.below a⟩,⟨c1,c2.below a⟩⟩
def Mi(A n:Nat)(v:Value)(g:List Nat)(wk:World):Prop:=∃B R,g=[B]/\v = .slice (some ⟨B,0,none⟩) 1 1/\A<=B/\Blk wk B 23 1 (λ_ => .slice (some ⟨R,0,none⟩) n n)/\A<=R/\Blk wk R 3 n (λ_ => .int .i64 0)
theorem Mi.below{g:List Nat}{b:World}(h:Mi A n v g w)(a:Below w.heap.size w b):Mi A n v g b:=by
 obtain⟨B,R,j,f,i,d,c,e⟩:=h;exact⟨B,R,j,f,i,d.below a,c,e.below a⟩
theorem Mi.lt{g:List Nat}(h:Mi A n v g w):∀x∈g,x<w.heap.size:=by
 obtain⟨B,R,rfl,e,c,a,b,d⟩:=h;intro x hx;rw[List.mem_singleton] at hx;subst hx;exact a.lt
def Fr(n:Nat)(w:World)(s:St):Prop:=∀w'':World,w.heap.size<=w''.heap.size->(∀g,n<=g->g<w.heap.size->w''.heap[g]?=w.heap[g]?)->s.At w''
theorem Fr.at(h:Fr n w s):s.At w:=h w nlr (λ_ _ _=>rfl)
theorem Fr.below(h:Fr n w s)(a:Below w.heap.size w c):Fr n c s:=λb e hs=>h b (Qzx a.size e) λg f d=>(hs g f (Xzx d a.size)).trans (a.block g d)
theorem Fr.set(h:Fr n w s)(e:q<n)(j:Nat)(u:Value):Fr n (w.setCell ⟨q,j,none⟩ u) s:=λa c hs=>h a (by simpa using c) λg d b=>(hs g d (by simpa using b)).trans (Below.heap_setCell w ⟨q,j,none⟩ u g (by show g≠q;omega))
theorem xd{base:Nat}{size:Nat}{k:List Value}(o:w.ownsRow base e size v n k)(j:w.grownBy d v.ownBlock)(h:Blk w q t m f)(c:t≠e):Blk d q t m f:=by
 refine h.grown j ?_;intro b;rcases o.2 with⟨rfl,_⟩|⟨r,p,l,rfl,_,a,i⟩
 .simp[Value.ownBlock] at b
 simp only[Value.ownBlock,Qkx] at b;subst b;obtain⟨c3,g,_⟩:=h;rw[g] at a;cases a;exact c rfl
theorem Yk{base:Nat}{size:Nat}{o:List Value}(g:w.ownsRow base e size v n o)(s:Blk w q t m f)(i:t≠e)(j:Nat)(u:Value):(w.setCell ⟨q,j,none⟩ u).ownsRow base e size v n o:=by
 refine⟨g.1,?_⟩;rcases g.2 with h|⟨p,d,c,rfl,k,a,b⟩
 .exact .inl h
 refine .inr ⟨p,d,c,rfl,k,?_,b⟩;rw[Below.heap_setCell w ⟨q,j,none⟩ u p ?_]
 .exact a
 intro r;obtain⟨c3,l,_⟩:=s;rw[r,l] at a;cases a;exact i rfl
def DOn(A:Nat)(s:St)(v:Value)(g:List Nat)(wk:World):Prop:=∃(g0 c0:Nat) (G C:Nat->Nat),v = .slice (some ⟨g0,0,none⟩) s.on.n c0/\A<=g0/\s.on.n<=c0/\c0<=maxLen/\Blk wk g0 23 s.on.n (λi => .slice (some ⟨G i,0,none⟩) (s.on.r i).n (C i)) /\
 (∀i,i<s.on.n->A<=G i/\(s.on.r i).n<=C i/\C i<=maxLen/\Blk wk (G i) 3 (s.on.r i).n (λj => .int .i64 ((s.on.r i).z j)))/\(∀i j,i<j->j<s.on.n->G i<G j)/\g=(List.range s.on.n).map G
theorem DOn.below{g:List Nat}{e:World}(h:DOn A s v g w)(d:Below w.heap.size w e):DOn A s v g e:=by
 obtain⟨n,j,G,C,l,o,c,b,f,a,k,m⟩:=h;exact⟨n,j,G,C,l,o,c,b,f.below d,λi hi=>⟨(a i hi).1,(a i hi).2.1,(a i hi).2.2.1,(a i hi).2.2.2.below d⟩,k,m⟩
theorem DOn.lt{g:List Nat}(h:DOn A s v g w):∀x∈g,x<w.heap.size:=by
 obtain⟨k,e,G,C,j,l,c,b,d,a,f,rfl⟩:=h;intro x hx;obtain⟨i,hi,rfl⟩:=List.mem_map.1 hx;exact(a i (List.mem_range.1 hi)).2.2.2.lt
def DE(v:Value)(g:List Nat):Prop:=∃B:Nat,g=[]/\v = .slice (some ⟨B,0,none⟩) 0 0
def Ko(A:Nat)(s:St)(v:Value)(g:List Nat)(wk:World):Prop:=g=[]/\∃x2 g2 x6 g6 x10 g10 x14 g14 x18 g18 x22 g22,v = .agg #[x2,.slice .none 0 0,x6,x10,x14,x18,x22]/\DOn A s x2 g2 wk/\DHs A 103 s.hs x6 g6 wk/\DHs A 77 s.ms x10 g10 wk /\
 kg A s.si x14 g14 wk/\kg A s.so x18 g18 wk/\kg A s.sf x22 g22 wk/\(∀x∈g2,x ∉ g14)/\(∀x∈g2,x ∉ g18)/\(∀x∈g2,x ∉ g22)/\(∀x∈g14,x ∉ g18)/\(∀x∈g14,x ∉ g22)/\(∀x∈g18,x ∉ g22)
theorem Ko.below{g:List Nat}{q:World}(h:Ko A s v g w)(i:Below w.heap.size w q):Ko A s v g q:=by
 obtain⟨B,u,D,z,x,t,l,o,n,j,p,m,k,y,a,b,c,d,e,f,r⟩:=h;exact⟨B,u,D,z,x,t,l,o,n,j,p,m,k,y,a.below i,b.below i,c.below i,d.below i,e.below i,f.below i,r⟩
theorem j6.grownO{B:Nat}{b:World}{r:Rw}{size:Nat}{i:List Value}(h:j6 A w r)(m:w.ownsRow B e size v n i)(d:w.grownBy b v.ownBlock)(a:3≠e):j6 A b r:=by
 obtain⟨g,l,k,c,j,f⟩:=h;exact⟨g,l,k,c,j,xd m d f a⟩
theorem cz.grownO{B:Nat}{b:World}{s:Hs}{size:Nat}{l:List Value}(h:cz A t w s)(q:w.ownsRow B e size v n l)(j:w.grownBy b v.ownBlock)(a:t≠e):cz A t b s:=by
 obtain⟨i,o,d,c⟩:=h;refine⟨i,o,d,λm => ?_⟩;obtain⟨g,p,f,k⟩:=c m;exact⟨g,p,f,xd q j k a⟩
theorem fq.grownO{B:Nat}{j:World}{k c:Nat}{a:Option Addr}{size:Nat}{o:List Value}(h:fq A w t k a c)(q:w.ownsRow B e size v n o)(m:w.grownBy j v.ownBlock)(i:t≠e):fq A j t k a c:=by
 refine h.same λg cur b=>m.block g (Qkq b).1 λf => ?_;rcases q.2 with⟨rfl,_⟩|⟨s,r,p,rfl,_,d,l⟩
 .simp[Value.ownBlock] at f
 simp only[Value.ownBlock,Qkx] at f;subst f;rw[b] at d;cases d;exact i rfl
theorem ai.grownO{B:Nat}{size:Nat}{k:List Value}(h:ai A w s)(q:s.os.n=0)(e:s.os.c=0)(b:w.ownsRow B 66 size v n k)(a:w.grownBy d v.ownBlock):ai A d s:=by
 refine⟨?_,λi hi=>(h.rows i hi).grownO b a (by decide),h.rapart,⟨h.os.le,h.os.cap,λl=>absurd l (by omega),λi hi=>absurd hi (by omega),h.os.apart,Or.inl e⟩,h.hs.grownO b a (by decide),h.ms.grownO b a (by decide),h.msr.grownO b a (by decide),h.si.grownO b a (by decide),h.so.grownO b a (by decide),h.sf.grownO b a (by decide),h.aio,h.aif,h.aof,h.ari⟩;obtain⟨g,p,o,f,m,j⟩:=h.on;exact⟨g,p,o,f,m,xd b a j (by decide)⟩
theorem ai.below{b:World}(h:ai A w s)(a:Below w.heap.size w b):ai A b s:=by
 refine⟨?_,λi hi=>(h.rows i hi).below a,h.rapart,h.os.below a,h.hs.below a,h.ms.below a,h.msr.below a,h.si.below a,h.so.below a,h.sf.below a,h.aio,h.aif,h.aof,h.ari⟩;obtain⟨g,f,e,j,d,c⟩:=h.on;exact⟨g,f,e,j,d,c.below a⟩
def Me(A:Nat)(s:St)(Ls:Nat->Od)(i:Nat)(wk:World):Prop:=(Ls i).k=(s.os.z i).k/\(Ls i).ls.n=(s.os.z i).ls.n/\(∀j,j<(s.os.z i).ls.n->(Ls i).ls.z j=(s.os.z i).ls.z j)/\∃B,(Ls i).ls.a=some ⟨B,0,none⟩/\A<=B/\(Ls i).ls.n<=(Ls i).ls.c/\(Ls i).ls.c<=maxLen/\Blk wk B 68 ((Ls i).ls.n*4) (λj=>(ax (Ls i).ls.n (Ls i).ls.z).getD j default)
def Y9(A A0:Nat)(s s0:St)(BX k:Nat)(wk:World):Prop:=∃(v:Value) (Ls:Nat->Od),Blk wk BX 31 7 (λj=>(#[.slice s0.on.a s0.on.n s0.on.c,v,.slice s0.hs.a s0.hs.n s0.hs.c,.slice s0.ms.a s0.ms.n s0.ms.c,.slice s0.si.a s0.si.n s0.si.c,.slice s0.so.a s0.so.n s0.so.c,.slice s0.sf.a s0.sf.n s0.sf.c]:Array Value).getD j default) /\
 wk.ownsRow A0 66 2 v k (jn k Ls)/\(∀i,i<k->Me A s Ls i wk)/\(∀i j,i<j->j<k->(Ls i).ls.a≠(Ls j).ls.a)/\ai A wk s0
def D16(A:Nat)(x:Od)(v:Value)(g:List Nat)(wk:World):Prop:=∃s':Hs,g=[]/\v = .agg #[.int .i64 x.k,.slice s'.a s'.n s'.c]/\pi A 68 x.ls wk s'
theorem D16.below{x:Od}{g:List Nat}(h:D16 A x v g w)(b:Below w.heap.size w a):D16 A x v g a:=by
 obtain⟨i,k,f,e,c,j,d⟩:=h;exact⟨i,k,f,e,c,j.below b,d.below b⟩
def D17(A:Nat)(x:Od)(v:Value)(g:List Nat)(wk:World):Prop:=∃(B:Nat) (s':Hs),g=[]/\v = .slice (some ⟨B,0,none⟩) 1 1/\A<=B/\Blk wk B 66 2 (λj=>(#[.int .i64 x.k,.slice s'.a s'.n s'.c]:Array Value).getD j default)/\pi A 68 x.ls wk s'
theorem D17.below{x:Od}{g:List Nat}{b:World}(h:D17 A x v g w)(a:Below w.heap.size w b):D17 A x v g b:=by
 obtain⟨B,e,j,m,d,c,i,l,k,f⟩:=h;exact⟨B,e,j,m,d,c.below a,i,l,k.below a,f.below a⟩
theorem A9{B:Nat}{s:Hs}(r:0<s.n)(d:w.ownsRow B e 4 v s.n (ax s.n s.z))(f:A<=B):∃b:Hs,v = .slice b.a b.n b.c/\pi A e s w b:=by
 have k:v ≠ .slice none 0 0:=by
  rintro rfl;rcases d.2 with⟨_,t⟩|⟨u,q,o,h,_⟩
  .omega
  cases h
 obtain⟨b,m,p,i,g,l⟩:=cz.ofOwns d k;exact⟨b,m,p,λj _=>by rw[i],g.mono f,l.mono f⟩
theorem Jv{s:Hs}(B:Nat)(a:s.n=0):pi A e s w ⟨some ⟨B,0,none⟩,0,0,s.z⟩:=⟨a.symm,λj b=>rfl,⟨Nat.le_refl _,Qxz _,(λh=>by cases h),λh=>absurd h (Nat.lt_irrefl _)⟩,Or.inl rfl⟩
theorem I5{s:Hs}(h:s.At w):∀e,s.a=some e->∀j u,(ax s.n s.z)[j]?=some u->w.cell? (e.add j)=some u:=λe i j u g=>by
 have c:=(List.getElem?_eq_some_iff.1 g).1;rw[ed] at c;have f:=h.hds;obtain⟨b,o,d,k,-⟩:=f 0 (by omega);rw[i] at d;simp only[Qkx] at d;subst d;rw[i] at f;exact jc.news f j u g
theorem Nx{s:Hs}(h:s.At w)(b:s.a=none):s.n=0:=by
 have:=h.nilc b;have:=h.le;omega
theorem Ix{B:Nat}{r:Rw}(p:0<r.n)(a:w.ownsRow B 3 1 v r.n ((List.range r.n).map λj=>Value.int .i64 (r.z j)))(o:A<=B):∃g c,v = .slice (some ⟨g,0,none⟩) r.n c/\B<=g/\kg A r v [g] w:=by
 have e:v ≠ .slice none 0 0:=by
  rintro rfl;rcases a.2 with⟨_,q⟩|⟨s,m,k,h,_⟩
  .omega
  cases h
 obtain⟨g,c,rfl,i,l,d,b⟩:=Blk.ofOwns a e;rw[Nat.mul_one] at b;exact⟨g,c,rfl,d,g,c,rfl,rfl,by omega,i,l,b.congr (λj f=>by simp[f])⟩
theorem Ns{r:Rw}(h:r.At w):∀f,r.a=some f->∀j u,((List.range r.n).map λj=>Value.int .i64 (r.z j))[j]?=some u->w.cell? (f.add j)=some u:=λf g j u e=>by
 have c:j<r.n:=by
  have:=(List.getElem?_eq_some_iff.1 e).1
  simpa using this
 obtain⟨b,o,d,i,hc⟩:=h.ints j c;rw[g] at d;simp only[Qkx] at d;subst d;rw[Go.WideShapes.add_plain,hc];simp[c] at e;rw[e]
theorem Nl{r:Rw}(h:r.At w)(e:r.a=none):r.n=0:=by
 rcases Nat.eq_zero_or_pos r.n with c|c
 .exact c
 obtain⟨b,o,d,_⟩:=h.ints 0 c;rw[e] at d;cases d
theorem pr(p:Pl)(s:St)(w:World)(hs:s.At w)(f:cw p s):
  Calls prog 85 #[s.val] w λe w'=>∃J:St,e = .returned J.val/\ae J s/\ai w.heap.size w' J/\Below w.heap.size w w':=by
 obtain⟨W0,hW,bk,X0,Z0⟩:∃W,((w.alloc (.cells s.cells 31)).alloc (.cells #[.slice .none 0 0,.slice .none 0 0,.slice .none 0 0,.slice .none 0 0,.slice .none 0 0,.slice .none 0 0,.slice .none 0 0] 31))=W/\Below w.heap.size w W/\Blk W w.heap.size 31 7 (λj=>s.cells.getD j default)/\Blk W (w.heap.size+1) 31 7 (λ_ => .slice .none 0 0):=
  ⟨_,rfl,j8 _ _ _,(Blk.mk' rfl rfl).alloc _,(Blk.mk' (cur:=#[.slice .none 0 0,.slice .none 0 0,.slice .none 0 0,.slice .none 0 0,.slice .none 0 0,.slice .none 0 0,.slice .none 0 0]) (by simp) rfl).congr (λj y=>by match j,y with|0,_=>rfl|1,_=>rfl|2,_=>rfl|3,_=>rfl|4,_=>rfl|5,_=>rfl|6,_=>rfl)⟩
 have HW:Hid ((w.alloc (.cells #[.slice s.on.a s.on.n s.on.c,.slice s.os.a s.os.n s.os.c,.slice s.hs.a s.hs.n s.hs.c,.slice s.ms.a s.ms.n s.ms.c,.slice s.si.a s.si.n s.si.c,.slice s.so.a s.so.n s.so.c,.slice s.sf.a s.sf.n s.sf.c] 31)).alloc (.cells #[.slice .none 0 0,.slice .none 0 0,.slice .none 0 0,.slice .none 0 0,.slice .none 0 0,.slice .none 0 0,.slice .none 0 0] 31)=W0):=hW;have HS:=hid (hs.below bk);have HF:=hid f;have HC:Hid (∀l,Below W0.heap.size W0 l->Boxed l w.heap.size s/\Blk l (w.heap.size+1) 31 7 (λ_ => .slice .none 0 0)/\s.At l/\Below w.heap.size w l):=λl h=>⟨Boxed.of (X0.below h),Z0.below h,(hs.below bk).below h,bk.trans (h.mono bk.size)⟩;have hl:=bk.size;have ic:=Z0.lt;have ns1:=f.sh.pl.ns1;have ns3:=f.sh.pl.ns3;have im:=f.hs72;have ms8:=f.ms8;obtain⟨l1,U,c1,c2,c3,c4,c5,c6⟩:=Boxed.of X0;have r0:=Qqq U;have r2:=Qqq c2;have r3:=Qqq c3;have r4:=Qqq c4;have r5:=Qqq c5;have r6:=Qqq c6;obtain⟨iI,hI,b8,cb,cf⟩:=info_parts Ep;obtain⟨iH,hH,ez,gy,gx⟩:=info_parts Hj;obtain⟨iM,hM,ga,fs,gs⟩:=info_parts O9;obtain⟨iL,hL,fe,fr,ft⟩:=info_parts Dm;obtain⟨iO,hO,ge,fa,gm⟩:=info_parts Ca;clear hW X0 Z0 hs f U c1 c2 c3 c4 c5 c6;unfold St.val;go_enter func85,ntmps85;go_wp2_with fail;rw[HW.out];refine td (λw'=>∃p:Regrown,w'=grow (redrawn W0 p.d) p.os) [0,1,4,5,8,9,12,13,16,17,20,21] [2,3,6,7,10,11,14,15,18,19,22,23,24] [(false,25)] (Qqx (brf.drew)) ?_;simp only[dw,Qyq,Xqq,Qyx,Qyz,Xqz,Xqx]
 repeat(go_big_quiet_step(fail))
 refine Qqz ?_;clear r0 r2 r3 r4 r5 r6;refine⟨λj v g l=>match j with|2=>DOn w.heap.size s v g l|6=>DHs w.heap.size 103 s.hs v g l|10=>DHs w.heap.size 77 s.ms v g l|14=>kg w.heap.size s.si v g l|18=>kg w.heap.size s.so v g l|22=>kg w.heap.size s.sf v g l|23=>Ko w.heap.size s v g l|24=>Cc W0.heap.size v g l|_=>DE v g,
  ?zmono,?zlow,?zstep,?zdone⟩
 case zmono =>
  intro j y v g w w' hB h;simp only[List.mem_cons,List.not_mem_nil,or_false] at y;rcases y with rfl|rfl|rfl|rfl|rfl|rfl|rfl|rfl|rfl|rfl|rfl|rfl|rfl
  .exact DOn.below h hB
  .exact h
  .exact DHs.below h hB
  .exact h
  .exact DHs.below h hB
  .exact h
  .exact kg.below h hB
  .exact h
  .exact kg.below h hB
  .exact h
  .exact kg.below h hB
  .exact Ko.below h hB
  exact Cc.below h hB
 case zlow =>
  intro j y v g w h;simp only[List.mem_cons,List.not_mem_nil,or_false] at y;rcases y with rfl|rfl|rfl|rfl|rfl|rfl|rfl|rfl|rfl|rfl|rfl|rfl|rfl
  .exact DOn.lt h
  .obtain⟨_,P,_⟩:=h;rw[P];intro x hx;simp at hx
  .obtain⟨_,P,_⟩:=h;rw[P];intro x hx;simp at hx
  .obtain⟨_,P,_⟩:=h;rw[P];intro x hx;simp at hx
  .obtain⟨_,P,_⟩:=h;rw[P];intro x hx;simp at hx
  .obtain⟨_,P,_⟩:=h;rw[P];intro x hx;simp at hx
  .exact kg.lt h
  .obtain⟨_,P,_⟩:=h;rw[P];intro x hx;simp at hx
  .exact kg.lt h
  .obtain⟨_,P,_⟩:=h;rw[P];intro x hx;simp at hx
  .exact kg.lt h
  .obtain⟨P,_⟩:=h;rw[P];intro x hx;simp at hx
  exact Cc.lt h
 case zstep =>
  intro i hi;simp only[List.mem_cons,List.not_mem_nil,or_false] at hi;rcases hi with rfl|rfl|rfl|rfl|rfl|rfl|rfl|rfl|rfl|rfl|rfl|rfl|rfl
  .intro V G l K t hd H o;have m:=af t;have q:=m.size;refine ay 2 rfl ?_;simp only[ap,bu,Qvz,Qwq,Qvx,Act.put,Qvq,Qwx,Qwz] at o ⊢;go_wp2_with fail;refine(Wp s.on l (HS.out.on.below m) (by rw[HF.out.sh.n];exact HF.out.sh.pl.nb6) (by rw[HF.out.sh.n];exact HF.out.sh.pl.nb1) (λi hi=>by rw[HF.out.sh.len i hi];exact⟨ns1,ns3⟩)).mono ?_;rintro e w2 ⟨g0,U,Gr,Cr,rfl,a1,bp,bf,a2,a3,a4,dp⟩;go_wp2_with fail;refine o _ ((List.range s.on.n).map Gr) _ (Qqx (m.trans (dp.mono m.size))) dp (λx hx => ?_) ⟨g0,U,Gr,Cr,rfl,by omega,bp,bf,a2,λi hi=>⟨by have:=(a3 i hi).1;omega,(a3 i hi).2⟩,a4,rfl⟩;obtain⟨i,hi,rfl⟩:=List.mem_map.1 hx;exact(a3 i (List.mem_range.1 hi)).1
  .intro V G l K t hd H o;have m:=af t;refine ay 3 rfl ?_;simp only[ap,bu,Qvz,Qwq,Qvx,Act.put,Qvq,Qwx,Qwz] at o ⊢;go_wp2_with fail;exact o _ [] _ (Qqx (m.alloc m.size _)) (brf.alloc nlr _) (λx hx=>by simp at hx) ⟨l.heap.size,rfl,rfl⟩
  .intro V G l K t hd H o;have m:=af t;have q:=m.size;obtain⟨B,-,h3⟩:DE (V 3) (G 3):=hd 3 (Qjz (by kernel_rfl)) (by simp);refine ay 6 rfl ?_;simp only[ap,bu,Qvz,Qwq,Qvx,Act.put,Qvq,Qwx,Qwz,h3] at o ⊢;go_wp2_with(at_builtin;refine ny l rfl (.tmp 8) (.tmp 10) 28 rfl 103 iH (.agg #[.int .i64 0,.int .i64 0,.int .i64 0,.int .i64 0]) 4 32 underlying28 hH ez gy gx rfl (by decide) B rfl s.hs.a s.hs.n s.hs.c (ax s.hs.n s.hs.z) rfl (by rw[ed]) (I5 (HS.out.hs.below m)) (me _ _) (Nx (HS.out.hs.below m)) (by unfold maxLen;omega) (by omega) ?_ ?_)
   .intro F;exact mg (o _ [] _ t brf (λx hx=>by simp at hx) ⟨⟨some ⟨B,0,none⟩,0,0,s.hs.z⟩,rfl,rfl,Jv B F⟩)
   intro F v' w1 S E;have L:Below l.heap.size l w1:=(Below.refl _ l).grown E nlr (by intro k hk;cases hk);obtain⟨J,rfl,hc⟩:=A9 (A:=w.heap.size) F S (by omega);exact mg (o _ [] _ (Qqx (m.trans (L.mono m.size))) L (λx hx=>by simp at hx) ⟨J,rfl,rfl,hc⟩)
  .intro V G l K t hd H o;have m:=af t;refine ay 7 rfl ?_;simp only[ap,bu,Qvz,Qwq,Qvx,Act.put,Qvq,Qwx,Qwz] at o ⊢;go_wp2_with fail;exact o _ [] _ (Qqx (m.alloc m.size _)) (brf.alloc nlr _) (λx hx=>by simp at hx) ⟨l.heap.size,rfl,rfl⟩
  .intro V G l K t hd H o;have m:=af t;have q:=m.size;obtain⟨B,-,h3⟩:DE (V 7) (G 7):=hd 7 (Qjz (by kernel_rfl)) (by simp);refine ay 10 rfl ?_;simp only[ap,bu,Qvz,Qwq,Qvx,Act.put,Qvq,Qwx,Qwz,h3] at o ⊢;go_wp2_with(at_builtin;refine ny l rfl (.tmp 12) (.tmp 14) 29 rfl 77 iM (.agg #[.int .i64 0,.int .i64 0,.int .i64 0,.int .i64 0]) 4 32 underlying29 hM ga fs gs rfl (by decide) B rfl s.ms.a s.ms.n s.ms.c (ax s.ms.n s.ms.z) rfl (by rw[ed]) (I5 (HS.out.ms.below m)) (me _ _) (Nx (HS.out.ms.below m)) (by unfold maxLen;omega) (by omega) ?_ ?_)
   .intro F;exact mg (o _ [] _ t brf (λx hx=>by simp at hx) ⟨⟨some ⟨B,0,none⟩,0,0,s.ms.z⟩,rfl,rfl,Jv B F⟩)
   intro F v' w1 S E;have L:Below l.heap.size l w1:=(Below.refl _ l).grown E nlr (by intro k hk;cases hk);obtain⟨J,rfl,hc⟩:=A9 (A:=w.heap.size) F S (by omega);exact mg (o _ [] _ (Qqx (m.trans (L.mono m.size))) L (λx hx=>by simp at hx) ⟨J,rfl,rfl,hc⟩)
  .intro V G l K t hd H o;have m:=af t;refine ay 11 rfl ?_;simp only[ap,bu,Qvz,Qwq,Qvx,Act.put,Qvq,Qwx,Qwz] at o ⊢;go_wp2_with fail;exact o _ [] _ (Qqx (m.alloc m.size _)) (brf.alloc nlr _) (λx hx=>by simp at hx) ⟨l.heap.size,rfl,rfl⟩
  .intro V G l K t hd H o;have m:=af t;have q:=m.size;obtain⟨B,-,h3⟩:DE (V 11) (G 11):=hd 11 (Qjz (by kernel_rfl)) (by simp);have HN:=hid HF.out.sin;refine ay 14 rfl ?_;simp only[ap,bu,Qvz,Qwq,Qvx,Act.put,Qvq,Qwx,Qwz,h3] at o ⊢;go_wp2_with(at_builtin;refine ny l rfl (.tmp 16) (.tmp 18) 23 rfl 3 iI (.int .i64 0) 1 8 underlying23 hI b8 cb cf rfl (by decide) B rfl s.si.a s.si.n s.si.c ((List.range s.si.n).map λj=>Value.int .i64 (s.si.z j)) rfl (by simp) (Ns (HS.out.si.below m)) (λu hu=>by obtain⟨x,_,rfl⟩:=List.mem_map.1 hu;rfl) (Nl (HS.out.si.below m)) (by rw[HN.out];unfold maxLen;omega) (by rw[HN.out];omega) ?_ ?_)
   .intro F;exact absurd F (by rw[HN.out];omega)
   intro F v' w1 S E;have L:Below l.heap.size l w1:=(Below.refl _ l).grown E nlr (by intro k hk;cases hk);obtain⟨gi,ci,rfl,ds,bg⟩:=Ix (A:=w.heap.size) F S (by omega);exact mg (o _ [gi] _ (Qqx (m.trans (L.mono m.size))) L (λx hx=>by rw[List.mem_singleton] at hx;omega) bg)
  .intro V G l K t hd H o;have m:=af t;refine ay 15 rfl ?_;simp only[ap,bu,Qvz,Qwq,Qvx,Act.put,Qvq,Qwx,Qwz] at o ⊢;go_wp2_with fail;exact o _ [] _ (Qqx (m.alloc m.size _)) (brf.alloc nlr _) (λx hx=>by simp at hx) ⟨l.heap.size,rfl,rfl⟩
  .intro V G l K t hd H o;have m:=af t;have q:=m.size;obtain⟨B,-,h3⟩:DE (V 15) (G 15):=hd 15 (Qjz (by kernel_rfl)) (by simp);have HN:=hid HF.out.son;refine ay 18 rfl ?_;simp only[ap,bu,Qvz,Qwq,Qvx,Act.put,Qvq,Qwx,Qwz,h3] at o ⊢;go_wp2_with(at_builtin;refine ny l rfl (.tmp 20) (.tmp 22) 23 rfl 3 iI (.int .i64 0) 1 8 underlying23 hI b8 cb cf rfl (by decide) B rfl s.so.a s.so.n s.so.c ((List.range s.so.n).map λj=>Value.int .i64 (s.so.z j)) rfl (by simp) (Ns (HS.out.so.below m)) (λu hu=>by obtain⟨x,_,rfl⟩:=List.mem_map.1 hu;rfl) (Nl (HS.out.so.below m)) (by rw[HN.out];unfold maxLen;omega) (by rw[HN.out];omega) ?_ ?_)
   .intro F;exact absurd F (by rw[HN.out];omega)
   intro F v' w1 S E;have L:Below l.heap.size l w1:=(Below.refl _ l).grown E nlr (by intro k hk;cases hk);obtain⟨gi,ci,rfl,ds,bg⟩:=Ix (A:=w.heap.size) F S (by omega);exact mg (o _ [gi] _ (Qqx (m.trans (L.mono m.size))) L (λx hx=>by rw[List.mem_singleton] at hx;omega) bg)
  .intro V G l K t hd H o;have m:=af t;refine ay 19 rfl ?_;simp only[ap,bu,Qvz,Qwq,Qvx,Act.put,Qvq,Qwx,Qwz] at o ⊢;go_wp2_with fail;exact o _ [] _ (Qqx (m.alloc m.size _)) (brf.alloc nlr _) (λx hx=>by simp at hx) ⟨l.heap.size,rfl,rfl⟩
  .intro V G l K t hd H o;have m:=af t;have q:=m.size;obtain⟨B,-,h3⟩:DE (V 19) (G 19):=hd 19 (Qjz (by kernel_rfl)) (by simp);have HN:=hid HF.out.sfn;refine ay 22 rfl ?_;simp only[ap,bu,Qvz,Qwq,Qvx,Act.put,Qvq,Qwx,Qwz,h3] at o ⊢;go_wp2_with(at_builtin;refine ny l rfl (.tmp 24) (.tmp 26) 23 rfl 3 iI (.int .i64 0) 1 8 underlying23 hI b8 cb cf rfl (by decide) B rfl s.sf.a s.sf.n s.sf.c ((List.range s.sf.n).map λj=>Value.int .i64 (s.sf.z j)) rfl (by simp) (Ns (HS.out.sf.below m)) (λu hu=>by obtain⟨x,_,rfl⟩:=List.mem_map.1 hu;rfl) (Nl (HS.out.sf.below m)) (by rw[HN.out];unfold maxLen;omega) (by rw[HN.out];omega) ?_ ?_)
   .intro F;exact absurd F (by rw[HN.out];omega)
   intro F v' w1 S E;have L:Below l.heap.size l w1:=(Below.refl _ l).grown E nlr (by intro k hk;cases hk);obtain⟨gi,ci,rfl,ds,bg⟩:=Ix (A:=w.heap.size) F S (by omega);exact mg (o _ [gi] _ (Qqx (m.trans (L.mono m.size))) L (λx hx=>by rw[List.mem_singleton] at hx;omega) bg)
  rotate_left
  .intro V G l K t hd H o;have m:=af t;refine ay 24 rfl ?_;simp only[ap,bu,Qvz,Qwq,Qvx,Act.put,Qvq,Qwx,Qwz] at o ⊢;go_wp2_with fail;exact o _ [l.heap.size] _ (Qqx (m.alloc m.size _)) (brf.alloc nlr _) (λx hx=>by rw[List.mem_singleton] at hx;omega) ⟨l.heap.size,rfl,rfl,m.size,(Blk.mk' (cur:=#[.slice .none 0 0,.slice .none 0 0,.slice .none 0 0,.slice .none 0 0,.slice .none 0 0,.slice .none 0 0,.slice .none 0 0]) rfl rfl).congr (λj y=>by match j,y with|0,_=>rfl|1,_=>rfl|2,_=>rfl|3,_=>rfl|4,_=>rfl|5,_=>rfl|6,_=>rfl)⟩
  intro V G l K t hd H o;have e2:DOn w.heap.size s (V 2) (G 2) l:=hd 2 (Qjz (by kernel_rfl)) (by simp);have e6:DHs w.heap.size 103 s.hs (V 6) (G 6) l:=hd 6 (Qjz (by kernel_rfl)) (by simp);have d8:DHs w.heap.size 77 s.ms (V 10) (G 10) l:=hd 10 (Qjz (by kernel_rfl)) (by simp);have d4:kg w.heap.size s.si (V 14) (G 14) l:=hd 14 (Qjz (by kernel_rfl)) (by simp);have dg:kg w.heap.size s.so (V 18) (G 18) l:=hd 18 (Qjz (by kernel_rfl)) (by simp);have ee:kg w.heap.size s.sf (V 22) (G 22) l:=hd 22 (Qjz (by kernel_rfl)) (by simp);have HD:Hid (Ko w.heap.size s (.agg #[V 2,.slice .none 0 0,V 6,V 10,V 14,V 18,V 22]) [] l):=⟨rfl,V 2,G 2,V 6,G 6,V 10,G 10,V 14,G 14,V 18,G 18,V 22,G 22,rfl,e2,e6,d8,d4,dg,ee,H 2 (Qjz (by kernel_rfl)) 14 (Qjz (by kernel_rfl)) (by simp) (by simp) (by decide),H 2 (Qjz (by kernel_rfl)) 18 (Qjz (by kernel_rfl)) (by simp) (by simp) (by decide),H 2 (Qjz (by kernel_rfl)) 22 (Qjz (by kernel_rfl)) (by simp) (by simp) (by decide),H 14 (Qjz (by kernel_rfl)) 18 (Qjz (by kernel_rfl)) (by simp) (by simp) (by decide),H 14 (Qjz (by kernel_rfl)) 22 (Qjz (by kernel_rfl)) (by simp) (by simp) (by decide),H 18 (Qjz (by kernel_rfl)) 22 (Qjz (by kernel_rfl)) (by simp) (by simp) (by decide)⟩;obtain⟨g0,U,Gr,Cr,v2,-⟩:=e2;obtain⟨D,-,v6,-⟩:=e6;obtain⟨m',-,dc,-⟩:=d8;obtain⟨T,k1,-,du,-⟩:=d4;obtain⟨X,k2,-,dz,-⟩:=dg;obtain⟨B3,k3,-,dx,-⟩:=ee;have cn:=HD.out;rw[v2,v6,dc,du,dz,dx] at cn;have fu:=hid cn;clear HD cn H hd;refine ay 23 rfl ?_;simp only[ap,bu,Qvz,Qwq,Qvx,Act.put,Qvq,Qwx,Qwz,v2,v6,dc,du,dz,dx] at o ⊢;go_wp2_with fail;exact o _ [] _ t brf (λx hx=>by simp at hx) fu.out
 case zdone =>
  intro V G l t hD H;obtain⟨-,x2,g2,x6,g6,ik,ig,il,ih,ie,ip,it,ij,dj,⟨g0,U,Gr,Cr,rfl,a1,bp,bf,a2,a3,a4,rfl⟩,⟨D,-,rfl,d1,d2,d3,-⟩,⟨m',-,rfl,f1,f2,f3,f4⟩,⟨T,k1,rfl,rfl,i1,i2,i3,i4⟩,⟨X,k2,rfl,rfl,j1,j2,j3,j4⟩,⟨B3,k3,rfl,rfl,l2,l3,l4,l5⟩,n1,n2,n3,n4,n5,n6⟩:Ko w.heap.size s (V 23) (G 23) l:=hD 23 (by simp);obtain⟨BX,-,d0,mX,Q⟩:Cc W0.heap.size (V 24) (G 24) l:=hD 24 (by simp);have m:=af t;have dy:T≠X:=λe=>n4 T (by simp) (by rw[e];simp);have dn:T≠B3:=λe=>n5 T (by simp) (by rw[e];simp);have dd:X≠B3:=λe=>n6 X (by simp) (by rw[e];simp);have nr:∀i,i<s.on.n->Gr i≠T/\Gr i≠X/\Gr i≠B3:=λi hi=>by
   have hm:Gr i∈(List.range s.on.n).map Gr:=List.mem_map.2 ⟨i,List.mem_range.2 hi,rfl⟩;exact⟨λe=>n1 _ hm (by rw[e];simp),λe=>n2 _ hm (by rw[e];simp),λe=>n3 _ hm (by rw[e];simp)⟩
  have HR:Hid (ai w.heap.size l ⟨⟨some ⟨g0,0,none⟩,s.on.n,U,λi=>⟨some ⟨Gr i,0,none⟩,(s.on.r i).n,Cr i,(s.on.r i).z⟩⟩,⟨none,0,0,λ_=>⟨0,⟨none,0,0,λ_=>⟨0,0,0,0⟩⟩⟩⟩,D,m',⟨some ⟨T,0,none⟩,s.si.n,k1,s.si.z⟩,⟨some ⟨X,0,none⟩,s.so.n,k2,s.so.z⟩,⟨some ⟨B3,0,none⟩,s.sf.n,k3,s.sf.z⟩⟩):=by
   refine⟨⟨g0,rfl,a1,bp,bf,a2⟩,λi hi=>⟨Gr i,rfl,(a3 i hi).1,(a3 i hi).2.1,(a3 i hi).2.2.1,(a3 i hi).2.2.2⟩,λi j bq y => ?_,⟨Nat.le_refl _,Qxz _,λh=>absurd h (Nat.lt_irrefl _),λi hi=>absurd hi (Qzq _),λi j _ y=>absurd y (Qzq _),Or.inl rfl⟩,d3,f3,f4,⟨T,rfl,i1,i2,i3,i4⟩,⟨X,rfl,j1,j2,j3,j4⟩,⟨B3,rfl,l2,l3,l4,l5⟩,?_,?_,?_,λi hi => ?_⟩
   .have:=a4 i j bq y;simp only[ne_eq,Qkx,Qkz,and_true];omega
   .intro e;simp only[Qkx,Qkz,and_true] at e;exact dy e
   .intro e;simp only[Qkx,Qkz,and_true] at e;exact dn e
   .intro e;simp only[Qkx,Qkz,and_true] at e;exact dd e
   obtain⟨x1,x2,x3⟩:=nr i hi;exact⟨λe=>by simp only[Qkx,Qkz,and_true] at e;exact x1 e,λe=>by simp only[Qkx,Qkz,and_true] at e;exact x2 e,λe=>by simp only[Qkx,Qkz,and_true] at e;exact x3 e⟩
  have dm:Hid ((D.n=s.hs.n/\∀j,j<D.n->D.z j=s.hs.z j)/\(m'.n=s.ms.n/\∀j,j<m'.n->m'.z j=s.ms.z j)):=⟨⟨d1,λj y=>d2 j (by rw[<-d1];exact y)⟩,⟨f1,λj y=>f2 j (by rw[<-f1];exact y)⟩⟩;clear hD H a1 bp bf a2 a3 a4 d1 d2 d3 f1 f2 f3 f4 i1 i2 i3 i4 j1 j2 j3 j4 l2 l3 l4 l5 n1 n2 n3 n4 n5 n6 dy dn dd nr t;have cc:=hid Q;have xl:=Q.lt;have ch:=Q.frozen 0;have ck:=Q.k 0;have di:=Q.frozen 1;have zc1:=Q.k 1;have d7:=Q.frozen 2;have zc2:=Q.k 2;have dq:=Q.frozen 3;have zc3:=Q.k 3;have ec:=Q.frozen 4;have zc4:=Q.k 4;have da:=Q.frozen 5;have zc5:=Q.k 5;have ef:=Q.frozen 6;have dr:=Q.k 6;clear Q;simp only[ap,bu,Qvz,Qwq,Qvx,Act.put,Qvq,Qwx,Qwz,dj,d0];refine dk 25 rfl ?_;go_wp2_with fail;have KZ:=rp cc.out (.slice (some ⟨g0,0,none⟩) s.on.n U) (.slice .none 0 0) (.slice D.a D.n D.c) (.slice m'.a m'.n m'.c) (.slice (some ⟨T,0,none⟩) s.si.n k1) (.slice (some ⟨X,0,none⟩) s.so.n k2) (.slice (some ⟨B3,0,none⟩) s.sf.n k3);have hb:=na m mX (.slice (some ⟨g0,0,none⟩) s.on.n U) (.slice .none 0 0) (.slice D.a D.n D.c) (.slice m'.a m'.n m'.c) (.slice (some ⟨T,0,none⟩) s.si.n k1) (.slice (some ⟨X,0,none⟩) s.so.n k2) (.slice (some ⟨B3,0,none⟩) s.sf.n k3);have bc:=ai.set7 HR.out cc.out (.slice (some ⟨g0,0,none⟩) s.on.n U) (.slice .none 0 0) (.slice D.a D.n D.c) (.slice m'.a m'.n m'.c) (.slice (some ⟨T,0,none⟩) s.si.n k1) (.slice (some ⟨X,0,none⟩) s.so.n k2) (.slice (some ⟨B3,0,none⟩) s.sf.n k3);unfold set7 at KZ hb bc
  generalize (((((((l.setCell { block:=BX,off:=0 } (Value.slice (some { block:=g0,off:=0 }) s.on.n U)).setCell { block:=BX,off:=1 } (Value.slice none 0 0)).setCell { block:=BX,off:=2 } (Value.slice D.a D.n D.c)).setCell { block:=BX,off:=3 } (Value.slice m'.a m'.n m'.c)).setCell { block:=BX,off:=4 } (Value.slice (some { block:=T,off:=0 }) s.si.n k1)).setCell { block:=BX,off:=5 } (Value.slice (some { block:=X,off:=0 }) s.so.n k2)).setCell { block:=BX,off:=6 } (Value.slice (some { block:=B3,off:=0 }) s.sf.n k3))=WZ at *
  clear m ch ck di zc1 d7 zc2 dq zc3 ec zc4 da zc5 ef dr xl dj d0;refine⟨jq.no (Qqx hb),?_⟩;refine NoPanic.normal ?_;go_wp2_with fail;have d9:Hid (Y9 w.heap.size W0.heap.size s ⟨⟨some ⟨g0,0,none⟩,s.on.n,U,λi=>⟨some ⟨Gr i,0,none⟩,(s.on.r i).n,Cr i,(s.on.r i).z⟩⟩,⟨none,0,0,λ_=>⟨0,⟨none,0,0,λ_=>⟨0,0,0,0⟩⟩⟩⟩,D,m',⟨some ⟨T,0,none⟩,s.si.n,k1,s.si.z⟩,⟨some ⟨X,0,none⟩,s.so.n,k2,s.so.z⟩,⟨some ⟨B3,0,none⟩,s.sf.n,k3,s.sf.z⟩⟩ BX 0 WZ):=⟨.slice .none 0 0,λ_=>⟨0,⟨none,0,0,λ_=>⟨0,0,0,0⟩⟩⟩,KZ,World.ownsRow_nil _ _ _ _,λi hi=>absurd hi (Qzq _),λi j _ y=>absurd y (Qzq _),bc⟩;clear KZ HR bc cc;have os4:=HF.out.os4;have ir:=HS.out.os.le;have et:=HS.out.os.cap;unfold maxLen at et
  go_loopw [4] (λi l=>∃k:Nat,k<=s.os.n/\i = .int .i64 k/\Hid (Y9 w.heap.size W0.heap.size s ⟨⟨some ⟨g0,0,none⟩,s.on.n,U,λi=>⟨some ⟨Gr i,0,none⟩,(s.on.r i).n,Cr i,(s.on.r i).z⟩⟩,⟨none,0,0,λ_=>⟨0,⟨none,0,0,λ_=>⟨0,0,0,0⟩⟩⟩⟩,D,m',⟨some ⟨T,0,none⟩,s.si.n,k1,s.si.z⟩,⟨some ⟨X,0,none⟩,s.so.n,k2,s.so.z⟩,⟨some ⟨B3,0,none⟩,s.sf.n,k3,s.sf.z⟩⟩ BX k l)/\Below W0.heap.size W0 l) (λi _=>s.os.n-(intOf i).toNat)
  case atStart=>exact⟨0,Qxz _,rfl,d9,hb⟩
  clear d9 hb;obtain⟨k,hk,rfl,HL,hB⟩:=hrel;obtain⟨⟨lb,b0,b1,b2,b3,b4,b5,b6⟩,hz,b9,ew⟩:=HC.out wr hB;by_cases dv:k<s.os.n;rotate_left
  .have fg:k=s.os.n:=by omega
   subst fg;obtain⟨v,Ls,Q,ho,an,bi,M⟩:=HL.out;have hv:∃va vc,v = .slice va s.os.n vc/\s.os.n<=vc/\vc<=maxLen/\(0<s.os.n->∃g,va=some ⟨g,0,none⟩/\w.heap.size<=g/\Blk wr g 66 (s.os.n*2) (λj=>(jn s.os.n Ls).getD j default)):=by
    by_cases cl:v = .slice none 0 0
    .have F:s.os.n=0:=by
      rcases ho.2 with⟨_,F⟩|⟨g2,cp,ej,h,_⟩
      .exact F
      rw[cl] at h;cases h
     exact⟨none,0,by rw[cl,F],by omega,Qxz _,λh=>by omega⟩
    obtain⟨g,c,rfl,P,h2,h3,h4⟩:=Blk.ofOwns ho cl;exact⟨some ⟨g,0,none⟩,c,rfl,P,h2,λ_=>⟨g,rfl,by omega,h4⟩⟩
   obtain⟨va,vc,rfl,v1,v2,v3⟩:=hv;have v4:fq w.heap.size wr 66 2 va vc:=fq.ofOwns ho (by omega);have HR:Hid (ai w.heap.size wr ⟨⟨some ⟨g0,0,none⟩,s.on.n,U,λi=>⟨some ⟨Gr i,0,none⟩,(s.on.r i).n,Cr i,(s.on.r i).z⟩⟩,⟨va,s.os.n,vc,Ls⟩,D,m',⟨some ⟨T,0,none⟩,s.si.n,k1,s.si.z⟩,⟨some ⟨X,0,none⟩,s.so.n,k2,s.so.z⟩,⟨some ⟨B3,0,none⟩,s.sf.n,k3,s.sf.z⟩⟩):=
    ⟨M.on,M.rows,M.rapart,⟨v1,v2,v3,λi hi=>(an i hi).2.2.2,bi,v4⟩,M.hs,M.ms,M.msr,M.si,M.so,M.sf,M.aio,M.aif,M.aof,M.ari⟩
   have gq:Hid (ae ⟨⟨some ⟨g0,0,none⟩,s.on.n,U,λi=>⟨some ⟨Gr i,0,none⟩,(s.on.r i).n,Cr i,(s.on.r i).z⟩⟩,⟨va,s.os.n,vc,Ls⟩,D,m',⟨some ⟨T,0,none⟩,s.si.n,k1,s.si.z⟩,⟨some ⟨X,0,none⟩,s.so.n,k2,s.so.z⟩,⟨some ⟨B3,0,none⟩,s.sf.n,k3,s.sf.z⟩⟩ s):=
    ⟨⟨rfl,λi hi=>⟨rfl,λj y=>rfl⟩⟩,⟨rfl,λi hi=>⟨(an i hi).1,(an i hi).2.1,λj y=>(an i hi).2.2.1 j (by rw[<-(an i hi).2.1];exact y)⟩⟩,dm.out.1,dm.out.2,⟨rfl,λj y=>rfl⟩,⟨rfl,λj y=>rfl⟩,⟨rfl,λj y=>rfl⟩⟩
   have xl:=Q.lt;obtain⟨x0,x1,x2,x3,x4,x5,x6⟩:=co Q;have dl:=hid hz;obtain⟨zl,ch,ck,di,zc1,d7,zc2,dq,zc3,ec,zc4,da,zc5,ef,dr⟩:=z7 hz;clear hz Q ho an bi M v1 v2 v3 v4 HL b9 b0 b2 b3 b4 b5 b6;go_wp2_with fail;have KZ:=rp dl.out (.slice (some ⟨g0,0,none⟩) s.on.n U) (.slice va s.os.n vc) (.slice D.a D.n D.c) (.slice m'.a m'.n m'.c) (.slice (some ⟨T,0,none⟩) s.si.n k1) (.slice (some ⟨X,0,none⟩) s.so.n k2) (.slice (some ⟨B3,0,none⟩) s.sf.n k3);have eb:=na (b:=w.heap.size+1) ew (by omega) (.slice (some ⟨g0,0,none⟩) s.on.n U) (.slice va s.os.n vc) (.slice D.a D.n D.c) (.slice m'.a m'.n m'.c) (.slice (some ⟨T,0,none⟩) s.si.n k1) (.slice (some ⟨X,0,none⟩) s.so.n k2) (.slice (some ⟨B3,0,none⟩) s.sf.n k3);have bc:=ai.set7 HR.out dl.out (.slice (some ⟨g0,0,none⟩) s.on.n U) (.slice va s.os.n vc) (.slice D.a D.n D.c) (.slice m'.a m'.n m'.c) (.slice (some ⟨T,0,none⟩) s.si.n k1) (.slice (some ⟨X,0,none⟩) s.so.n k2) (.slice (some ⟨B3,0,none⟩) s.sf.n k3);unfold set7 at KZ eb bc
   generalize (((((((wr.setCell { block:=w.heap.size+1,off:=0 } (Value.slice (some { block:=g0,off:=0 }) s.on.n U)).setCell { block:=w.heap.size+1,off:=1 } (Value.slice va s.os.n vc)).setCell { block:=w.heap.size+1,off:=2 } (Value.slice D.a D.n D.c)).setCell { block:=w.heap.size+1,off:=3 } (Value.slice m'.a m'.n m'.c)).setCell { block:=w.heap.size+1,off:=4 } (Value.slice (some { block:=T,off:=0 }) s.si.n k1)).setCell { block:=w.heap.size+1,off:=5 } (Value.slice (some { block:=X,off:=0 }) s.so.n k2)).setCell { block:=w.heap.size+1,off:=6 } (Value.slice (some { block:=B3,off:=0 }) s.sf.n k3))=WY at *
   obtain⟨e4,f5,gv,f9,fx,f6,fo⟩:=co KZ;have HQ:=hid bc;refine Xzq (v:=(⟨⟨some ⟨g0,0,none⟩,s.on.n,U,λi=>⟨some ⟨Gr i,0,none⟩,(s.on.r i).n,Cr i,(s.on.r i).z⟩⟩,⟨va,s.os.n,vc,Ls⟩,D,m',⟨some ⟨T,0,none⟩,s.si.n,k1,s.si.z⟩,⟨some ⟨X,0,none⟩,s.so.n,k2,s.so.z⟩,⟨some ⟨B3,0,none⟩,s.sf.n,k3,s.sf.z⟩⟩:St).val) (by simp[results,results85,go_sem,St.val,e4,f5,gv,f9,fx,f6,fo]) rfl ?_;exact⟨_,rfl,gq.out,HQ.out,eb⟩
  obtain⟨v,Ls,Q,ho,an,bi,M⟩:=HL.out;obtain⟨bo,oo,de,iq,y0,y1,dh⟩:=b9.os.ods k dv;have l3:=HF.out.lns k dv;have HG:=qa4 ho an bi M;have HX:=hid Q;have d6:=hid dh;have qk:(0:Int)<=(k:Int):=by omega
  rw[de] at b1;have r0:=Qqq (Q.k 1);have r1:=Qqq b1;have r2:=Qqq y0;have r3:=Qqq y1;clear Q ho an bi M hz de y0 y1 dh b0 b2 b3 b4 b5 b6 b9 HL;go_wp2_with fail;refine td (λw'=>∃p:Regrown,w'=grow (redrawn wr p.d) p.os) [0,1,2,3,4,5,6,7,9,10,11,12,13,14] [8,15,16,17] [(true,18),(true,19),(true,20)] (Qqx (brf.drew)) ?_;simp only[dw,Qyq,Xqq,Qyx,Qyz,Xqz,Xqx]
  repeat(go_big_quiet_step(fail))
  refine Qqz ?_;clear r0 r1 r2 r3;refine⟨λj v g l=>match j with|15=>DHs wr.heap.size 68 (s.os.z k).ls v g l|16=>D16 wr.heap.size (s.os.z k) v g l|17=>D17 wr.heap.size (s.os.z k) v g l|_=>DE v g,
   Qjx ⟨λv g w w' _ h=>h,Qjx ⟨λv g w w' hB h=>DHs.below h hB,Qjx ⟨λv g w w' hB h=>D16.below h hB,Qjx ⟨λv g w w' hB h=>D17.below h hB,Qjq _⟩⟩⟩⟩,
   Qjx ⟨λv g w h=>by obtain⟨_,P,_⟩:=h;rw[P];intro x hx;simp at hx,Qjx ⟨λv g w h=>by obtain⟨_,P,_⟩:=h;rw[P];intro x hx;simp at hx,Qjx ⟨λv g w h=>by obtain⟨_,P,_⟩:=h;rw[P];intro x hx;simp at hx,Qjx ⟨λv g w h=>by obtain⟨_,_,P,_⟩:=h;rw[P];intro x hx;simp at hx,Qjq _⟩⟩⟩⟩,
   Qjx ⟨?zt8,Qjx ⟨?zt15,Qjx ⟨?zt16,Qjx ⟨?zt17,Qjq _⟩⟩⟩⟩,?ztdone⟩
  case zt8 =>
   intro V G l K t hd H o;have m:=af t;refine ay 8 rfl ?_;simp only[ap,bu,Qvz,Qwq,Qvx,Act.put,Qvq,Qwx,Qwz] at o ⊢;go_wp2_with fail;exact o _ [] _ (Qqx (m.alloc m.size _)) (brf.alloc nlr _) (λx hx=>by simp at hx) ⟨l.heap.size,rfl,rfl⟩
  case zt15 =>
   intro V G l K t hd H o;have m:=af t;have q:=m.size;obtain⟨B,-,h3⟩:DE (V 8) (G 8):=hd 8 (Qjz (by kernel_rfl)) (by simp);refine ay 15 rfl ?_;simp only[ap,bu,Qvz,Qwq,Qvx,Act.put,Qvq,Qwx,Qwz,h3] at o ⊢;go_wp2_with(at_builtin;refine ny l rfl (.tmp 44) (.tmp 50) 32 rfl 68 iL (.agg #[.int .i64 0,.int .i64 0,.int .i64 0,.int .i64 0]) 4 32 underlying32 hL fe fr ft rfl (by decide) B rfl (s.os.z k).ls.a (s.os.z k).ls.n (s.os.z k).ls.c (ax (s.os.z k).ls.n (s.os.z k).ls.z) rfl (by rw[ed]) (I5 (d6.out.below m)) (me _ _) (Nx (d6.out.below m)) (by unfold maxLen;omega) (by omega) ?_ ?_)
   .intro F;exact absurd F (by omega)
   intro F v' w1 S E;have L:Below l.heap.size l w1:=(Below.refl _ l).grown E nlr (by intro k hk;cases hk);obtain⟨J,rfl,hc⟩:=A9 (A:=wr.heap.size) F S (by omega);exact mg (o _ [] _ (Qqx (m.trans (L.mono m.size))) L (λx hx=>by simp at hx) ⟨J,rfl,rfl,hc⟩)
  case zt16 =>
   intro V G l K t hd H o;obtain⟨J,-,gh,hc⟩:DHs wr.heap.size 68 (s.os.z k).ls (V 15) (G 15) l:=hd 15 (Qjz (by kernel_rfl)) (by simp);have bb:Hid (pi wr.heap.size 68 (s.os.z k).ls l J):=hc;clear hc;refine ay 16 rfl ?_;simp only[ap,bu,Qvz,Qwq,Qvx,Act.put,Qvq,Qwx,Qwz,gh] at o ⊢;go_wp2_with fail;exact o _ [] _ t brf (λx hx=>by simp at hx) ⟨J,rfl,rfl,bb.out⟩
  case zt17 =>
   intro V G l K t hd H o;have m:=af t;obtain⟨J,-,e9,hc⟩:D16 wr.heap.size (s.os.z k) (V 16) (G 16) l:=hd 16 (Qjz (by kernel_rfl)) (by simp);have bb:Hid (pi wr.heap.size 68 (s.os.z k).ls l J):=hc;clear hc;refine ay 17 rfl ?_;simp only[ap,bu,Qvz,Qwq,Qvx,Act.put,Qvq,Qwx,Qwz,e9] at o ⊢;go_wp2_with fail;have d5:=(Below.refl l.heap.size l).alloc nlr (.cells #[.int .i64 (s.os.z k).k,.slice J.a J.n J.c] 66);exact o _ [] _ (Qqx (m.alloc m.size _)) (brf.alloc nlr _) (λx hx=>by simp at hx) ⟨l.heap.size,J,rfl,rfl,m.size,Blk.mk' rfl rfl,bb.out.1,bb.out.2.1,bb.out.2.2.1.below d5,bb.out.2.2.2.below d5⟩
  case ztdone =>
   intro V G' l t hD H;obtain⟨BO,J,-,gd,io,bz,e1,e2,⟨o1,o2,o3,o4⟩,-⟩:D17 wr.heap.size (s.os.z k) (V 17) (G' 17) l:=hD 17 (by simp);have m:=af t;have ho:=lv HG.out.1 m;have df:=hB.trans (m.mono hB.size);have q0:=hB.size;have q1:=m.size;obtain⟨gB,ea,ii,kB⟩:=o4 (by omega);clear t hD H;have HE:=qa5 e1 e2 ea o1 o2;have dt:=hid kB;clear e1 e2 ea o1 o2 o3 o4 kB;simp only[ap,bu,Qvz,Qwq,Qvx,Act.put,Qvq,Qwx,Qwz,gd];refine dk 18 rfl ?_;go_wp2_with(at_builtin;refine wpList_append_own _ rfl (.tmp 37) (.tmp 53) 27 rfl W0.heap.size 66 iO (.agg #[.int .i64 0,.slice none 0 0]) 2 32 underlying27 hO ge fa gm rfl (by decide) _ _ _ rfl ho ⟨BO,0,none⟩ 1 1 [.int .i64 (s.os.z k).k,.slice J.a J.n J.c] rfl rfl ?zc1 ?zc2 ?zc3 ?zc4 ?zc5 ?_)
   case zc1 =>
    intro j u y
    match j,y with
    | 0,y=>simp at y;subst y;exact bz.k 0
    | 1,y=>simp at y;subst y;exact bz.k 1
   case zc2=>intro u hu;simp at hu;rcases hu with rfl|rfl<;>rfl
   case zc3=>unfold maxLen;omega
   case zc4=>omega
   case zc5=>omega
   intro v2 w2 bd Y cs;have cm:=ho.lt;have em:Below W0.heap.size W0 w2:=df.grown Y (by omega) (λq hq=>(cm q hq).1);have am:=xd ho Y (HX.out.below m) (by decide);have b7:=xd ho Y dt.out (by decide);have ce:∀i,i<k->Me w.heap.size s Ls i w2:=λi hi=>by
    obtain⟨x1,x2,x3,B,x4,x5,x6,x7,x8⟩:=HG.out.2.1 i hi;exact⟨x1,x2,x3,B,x4,x5,x6,x7,xd ho Y (x8.below m) (by decide)⟩
   have ca:∀i,i<k->(Ls i).ls.a≠some ⟨gB,0,none⟩:=λi hi e=>by
    obtain⟨x1,x2,x3,B,x4,x5,x6,x7,x8⟩:=HG.out.2.1 i hi;rw[x4] at e;simp only[Qkx,Qkz,and_true] at e;have:=x8.lt;omega
   have cd:=ai.grownO (HG.out.2.2.2.below m) rfl rfl ho Y;have gp:∃g c,v2 = .slice (some ⟨g,0,none⟩) (k+1) c:=by
    rcases bd.2 with⟨_,F⟩|⟨g2,cp,ej,rfl,_⟩
    .omega
    exact⟨g2,cp,rfl⟩
   have xl:=am.lt;have ch:=am.frozen 1;have ck:=am.k 1;have f8:=em.setCell (p:=⟨BX,1,none⟩) mX v2;have KB:=am.set 1 v2;have HN:Hid (Y9 w.heap.size W0.heap.size s ⟨⟨some ⟨g0,0,none⟩,s.on.n,U,λi=>⟨some ⟨Gr i,0,none⟩,(s.on.r i).n,Cr i,(s.on.r i).z⟩⟩,⟨none,0,0,λ_=>⟨0,⟨none,0,0,λ_=>⟨0,0,0,0⟩⟩⟩⟩,D,m',⟨some ⟨T,0,none⟩,s.si.n,k1,s.si.z⟩,⟨some ⟨X,0,none⟩,s.so.n,k2,s.so.z⟩,⟨some ⟨B3,0,none⟩,s.sf.n,k3,s.sf.z⟩⟩ BX (k+1) (w2.setCell ⟨BX,1,none⟩ v2)):=by
    refine⟨v2,λi=>if i=k then ⟨(s.os.z k).k,J⟩ else Ls i,KB.congr (λj y=>by match j,y with|0,_=>rfl|1,_=>rfl|2,_=>rfl|3,_=>rfl|4,_=>rfl|5,_=>rfl|6,_=>rfl),?_,λi hi => ?_,λi j bq y => ?_,cd.box am 1 v2⟩
    .have e:jn (k+1) (λi=>if i=k then ⟨(s.os.z k).k,J⟩ else Ls i)=jn k Ls++[.int .i64 (s.os.z k).k,.slice J.a J.n J.c]:=by
      rw[jn,yh (z':=Ls) λi hi=>by rw[if_neg (by omega)],if_pos rfl]
      rfl
     rw[e];exact Yk bd am (by decide) _ _
    .by_cases c9:i=k
     .subst c9;unfold Me;dsimp only;rw[if_pos rfl];exact⟨rfl,HE.out.1,HE.out.2.1,gB,HE.out.2.2.1,by omega,HE.out.2.2.2.1,HE.out.2.2.2.2,b7.other (a:=⟨BX,1,none⟩) (Blk.ne b7 am (by decide)) _⟩
     unfold Me;dsimp only;rw[if_neg c9];obtain⟨x1,x2,x3,B,x4,x5,x6,x7,x8⟩:=ce i (by omega);exact⟨x1,x2,x3,B,x4,x5,x6,x7,x8.other (a:=⟨BX,1,none⟩) (Blk.ne x8 am (by decide)) _⟩
    dsimp only;by_cases db:j=k
    .subst db;rw[if_neg (by omega),if_pos rfl,HE.out.2.2.1];exact ca i bq
    rw[if_neg (by omega),if_neg db];exact HG.out.2.2.1 i j bq (by omega)
   clear b7 ce ca cd KB bd am ho Y cs cm bz m HG HX df dt HE;obtain⟨g2,c2,rfl⟩:=gp;refine mg ⟨jq.yes,?_⟩;refine dk 19 rfl ?_;go_wp2_with fail;refine⟨jq.yes,?_⟩;refine dk 20 rfl ?_;go_wp2_with fail;refine⟨jq.yes,?_⟩;refine NoPanic.normal ?_;go_wp2_with fail;go_roundw
   case rel=>exact⟨k+1,by omega,by go_num,HN,f8⟩
   case measure=>simp[intOf];omega
def pu(A:Nat)(e:TypeId)(w w':World):Prop:=∃row,w.grownBy w' row/\∀k,row=some k->A<=k/\∃cur,w.heap[k]?=some (.cells cur e (0,0))
theorem pu.blk{b:World}(h:pu A e w b)(g:Blk w q t m f)(c:t≠e):Blk b q t m f:=by
 obtain⟨row,k,j⟩:=h;refine g.grown k λi => ?_;obtain⟨_,c2,a⟩:=j q i.symm;obtain⟨c3,d,_⟩:=g;rw[d] at a;cases a;exact c rfl
theorem pu.low(h:pu A e w a)(d:Blk w q t m f)(i:q<A):Blk a q t m f:=by
 obtain⟨row,c,g⟩:=h;exact d.grown c λb=>by have:=(g q b.symm).1;omega
theorem pu.below{a:Nat}{w0 b:World}(h:pu A e w b)(g:Below a w0 w)(i:a<=A)(hs:a<=w.heap.size):Below a w0 b:=by
 obtain⟨row,d,f⟩:=h;exact g.grown d hs λk c=>by have:=(f k c).1;omega
theorem fq.grew{B:Nat}{j:World}{k c:Nat}{a:Option Addr}(h:fq A w t k a c)(f:pu B e w j)(i:t≠e):fq A j t k a c:=by
 obtain⟨row,f,m⟩:=f;refine h.same λg cur b=>f.block g (Qkq b).1 λl => ?_;obtain⟨_,c2,d⟩:=m g l.symm;rw[b] at d;cases d;exact i rfl
theorem j6.grew{B:Nat}{b:World}{r:Rw}(h:j6 A w r)(c:pu B e w b)(a:3≠e):j6 A b r:=by
 obtain⟨g,j,i,k,f,d⟩:=h;exact⟨g,j,i,k,f,c.blk d a⟩
theorem cz.grew{B:Nat}{b:World}{s:Hs}(h:cz A t w s)(j:pu B e w b)(a:t≠e):cz A t b s:=by
 obtain⟨i,m,d,c⟩:=h;refine⟨i,m,d,λl => ?_⟩;obtain⟨g,n,f,k⟩:=c l;exact⟨g,n,f,j.blk k a⟩
theorem O3{size:Nat}{a:List Value}(h:w.ownsRow A e size v n a)(c:b<=A):w.ownsRow b e size v n a :=
 ⟨h.1,h.2.imp_right λ⟨g,cap,cur,h1,h2,h3⟩=>⟨g,cap,cur,h1,Qzx c h2,h3⟩⟩
theorem M8{size c:Nat}{cur:Array Value}{a:List Value}(p:A<=g)(l:w.heap[g]?=some (.cells cur e (0,0)))(i:cur.size=c*size)(f:n<=c)(d:c<=maxLen)(q:a.length=n*size)
  (r:0<n->Blk w g e (n*size) (λj=>a.getD j default)):w.ownsRow A e size (.slice (some ⟨g,0,none⟩) n c) n a:=by
 refine⟨q,Or.inr ⟨g,c,cur,rfl,p,l,f,d,i,?_⟩⟩
 apply List.ext_getElem?
 intro j;rw[List.getElem?_take];by_cases b:j<n*size
 .rw[if_pos b];have t:0<n:=by
   rcases Nat.eq_zero_or_pos n with h|h
   .subst h;simp at b
   exact h
  obtain⟨s,hc,_,o⟩:=r t;rw[l] at hc;cases hc;have k:=o j b;have m:j<a.length:=by omega
  rw[List.getElem?_eq_getElem m];simp only[List.getD,List.getElem?_eq_getElem m,Option.getD_some] at k
  simpa using k
 rw[if_neg b,List.getElem?_eq_none (by omega)]
theorem tc(w:World){rest:List Oper}{o:Oper}{a:Act}
  (X:o.guard=none) (s x:Operand) (t:TypeId) (G:o.op=Op.call { callee:=Callee.builtin Builtin.append,args:=#[s,x],argTypes:=#[t,t] })
  (A:Nat) (e:TypeId) (i:TypeInfo) (z:Value) (size bytes:Nat) (h1:P.underlying t=some (.slice e)) (h2:P.info? e=some i) (T:i.zero=some z) (h4:i.size=size) (h5:i.bytes=bytes) (h6:z.cells.size=size) (h7:0<size)
  (q:Option Addr) (n c:Nat) (l:List Value) (hs:a.eval s = .slice q n c) (r:fq A w e size q c) (E:n<=c) (H:c<=maxLen) (B:l.length=n*size) (J:0<n->∃g,q=some ⟨g,0,none⟩/\A<=g/\Blk w g e (n*size) (λj=>l.getD j default))
  (v:Addr) (m M:Nat) (news:List Value) (hx:a.eval x = .slice (some v) m M) (hn:news.length=m*size) (hc:∀j u,news[j]?=some u->w.cell? (v.add j)=some u) (D:∀u∈news,u.oneCell'=true)
  (hm:0<m) (b1:n+m<=maxLen) (b2:(n+m)*bytes<=140737488355328) (hA:A<=w.heap.size)
  (V:∀f d,d.ownsRow A e size f (n+m) (l++news)->pu A e w d->wpList P Y Q rest (a.put o.dst f) d) :
  wpList P Y Q (o :: rest) a w:=by
 rcases r with h0|⟨g,cur,ha,F,y,U⟩
 .subst h0;have W:n=0:=by omega
  subst W;obtain rfl:l=[]:=List.eq_nil_of_length_eq_zero (by simpa using B);refine wpList_append_grows w X s x t G e i z size bytes h1 h2 T h4 h5 h6 h7 q 0 0 [] hs (λ_=>⟨rfl,rfl⟩) (by simp) (λb _ j u hj=>by simp at hj) v m M news hx hn hc D (by omega) b1 b2 λf d S K => ?_;exact V f d (O3 S hA) ⟨none,K,λk p=>by cases p⟩
 subst ha;have L:=M8 (w:=w) (e:=e) F y U E H B (λh=>by
  obtain⟨g',e1,_,hb⟩:=J h;simp only[Qkx,Qkz,and_true] at e1;subst e1;exact hb)
 refine wpList_append_own w X s x t G A e i z size bytes h1 h2 T h4 h5 h6 h7 _ n l hs L v m M news hx hn hc D b1 b2 hA λf d S K _ => ?_;refine V f d S ⟨_,K,λk p => ?_⟩;simp only[Value.ownBlock,Qkx] at p;subst p;exact⟨F,cur,y⟩
def l8(s:Os)(x:Od)(i:Nat):Od:=if i=s.n then x else s.z i
theorem Vd(s:Os)(x:Od):jn s.n s.z++p8 x=jn (s.n+1) (l8 s x):=by
 rw[jn,yh (z':=l8 s x) λi hi=>by unfold l8;rw[if_neg (by omega)]]
 congr 1
 unfold l8;rw[if_pos rfl]
theorem j7.more{b:World}{s:Os}{x:Od}(h:j7 A w s)(k:b.ownsRow A 66 2 v (s.n+1) (jn s.n s.z++p8 x))(m:pu A 66 w b)
  {B:Nat} (P:x.ls.a=some ⟨B,0,none⟩) (D:A<=B) (J:x.ls.n<=x.ls.c) (hc:x.ls.c<=maxLen) (p:Blk w B 68 (x.ls.n*4) (λj=>(ax x.ls.n x.ls.z).getD j default)) (o:∀i,i<s.n->(s.z i).ls.a≠x.ls.a) :
  ∃va vc,v = .slice va (s.n+1) vc/\j7 A b ⟨va,s.n+1,vc,l8 s x⟩:=by
 have t:v ≠ .slice none 0 0:=by
  rintro rfl;rcases k.2 with⟨_,U⟩|⟨T,E,K,h,_⟩
  .omega
  cases h
 have d:=k;rw[Vd] at d;obtain⟨g,c,rfl,H,L,r,q⟩:=Blk.ofOwns d t;refine⟨some ⟨g,0,none⟩,c,rfl,H,L,λ_=>⟨g,rfl,r,q⟩,λi hi => ?_,λi j l G => ?_,fq.ofOwns k nlr⟩
 .show ∃B,(l8 s x i).ls.a=_/\A<=B/\(l8 s x i).ls.n<=(l8 s x i).ls.c/\(l8 s x i).ls.c<=maxLen/\Blk b B 68 ((l8 s x i).ls.n*4) (λj=>(ax (l8 s x i).ls.n (l8 s x i).ls.z).getD j default);have Q:i<s.n+1:=hi;unfold l8;by_cases f:i=s.n
  .rw[if_pos f];exact⟨B,P,D,J,hc,m.blk p (by decide)⟩
  rw[if_neg f];obtain⟨B',a1,M,y,u,F⟩:=h.lines i (by omega);exact⟨B',a1,M,y,u,m.blk F (by decide)⟩
 have S:j<s.n+1:=G;show(l8 s x i).ls.a≠(l8 s x j).ls.a;unfold l8;rw[if_neg (by omega)];by_cases e:j=s.n
 .rw[if_pos e];exact o i (by omega)
 rw[if_neg e];exact h.apart i j l (by omega)
structure Bt(R:Nat)(w w':World):Prop where
 os:w'.os=w.os
 tape:w'.tape=w.tape
 output:w'.output=w.output
 size:w.heap.size<=w'.heap.size
 block:∀q,q<w.heap.size->q≠R->w'.heap[q]?=w.heap[q]?
theorem Bt.refl(R:Nat)(w:World):Bt R w w:=⟨rfl,rfl,rfl,Nat.le_refl _,λ_ _ _=>rfl⟩
theorem Bt.trans{b:World}(h:Bt R a b)(k:Bt R b c):Bt R a c :=
 ⟨k.os.trans h.os,k.tape.trans h.tape,k.output.trans h.output,Qzx h.size k.size,λq d e=>(k.block q (Xzx d h.size) e).trans (h.block q d e)⟩
theorem Bt.drew(h:Bt R a w):Bt R a w.drew:=⟨h.os,h.tape,h.output,h.size,h.block⟩
theorem Bt.of{B:Nat}(h:Below B w a)(c:w.heap.size<=B):Bt R w a:=⟨h.os,h.tape,h.output,h.size,λq b _=>h.block q (by omega)⟩
theorem Bt.alloc(h:Bt R a w)(o:Obj):Bt R a (w.alloc o):=h.trans (Bt.of (brf.alloc nlr o) nlr)
theorem Bt.set(h:Bt R a w){p:Addr}(b:p.block=R\/a.heap.size<=p.block)(u:Value):Bt R a (w.setCell p u):=
 ⟨h.os,h.tape,h.output,by simpa[World.setCell] using h.size,λq c d=>(Below.heap_setCell w p u q (by rcases b with b|b<;>omega)).trans (h.block q c d)⟩
theorem Bt.thenB{b:World}(h:Bt R a b)(k:Below a.heap.size b c):Bt R a c :=
 ⟨k.os.trans h.os,k.tape.trans h.tape,k.output.trans h.output,Qzx h.size k.size,λq d e=>(k.block q d).trans (h.block q d e)⟩
theorem Bt.blk{b:World}(h:Bt R w b)(a:Blk w q e n f)(c:q≠R):Blk b q e n f:=a.same (h.block q a.lt c)
theorem Bt.below{B:Nat}(h:Bt R w a)(c:B<=R)(hs:B<=w.heap.size):Below B w a:=⟨h.os,h.tape,h.output,h.size,λk b=>h.block k (by omega) (by omega)⟩
theorem Bt.grew(h:Bt R a w)(b:pu A e w d)(i:a.heap.size<=A):Bt R a d:=by
 obtain⟨row,b,g⟩:=b;exact⟨b.os.trans h.os,b.tape.trans h.tape,b.output.trans h.output,Qzx h.size b.size,λq c f=>(b.block q (Xzx c h.size) (λe=>by have:=(g q e.symm).1;omega)).trans (h.block q c f)⟩
structure Eqv(w w':World):Prop where
 os:w'.os=w.os
 tape:w'.tape=w.tape
 output:w'.output=w.output
 heap:w'.heap=w.heap
theorem Eqv.refl(w:World):Eqv w w:=⟨rfl,rfl,rfl,rfl⟩
theorem Eqv.trans{b:World}(h:Eqv a b)(k:Eqv b c):Eqv a c:=⟨k.os.trans h.os,k.tape.trans h.tape,k.output.trans h.output,k.heap.trans h.heap⟩
theorem Eqv.drew(w:World):Eqv w w.drew:=⟨rfl,rfl,rfl,rfl⟩
theorem Eqv.drewN(w:World)(n:Nat):Eqv w (w.drewN n):=⟨rfl,rfl,rfl,rfl⟩
theorem Eqv.set(h:Eqv w a)(p:Addr)(u:Value):Eqv (w.setCell p u) (a.setCell p u):=by
 refine⟨h.os,h.tape,h.output,?_⟩;unfold World.setCell;rw[h.heap]
theorem Eqv.below(h:Eqv w a)(B:Nat):Below B w a:=⟨h.os,h.tape,h.output,by rw[h.heap];exact Nat.le_refl _,λk _=>by rw[h.heap]⟩
theorem Eqv.bt(h:Eqv w a)(R:Nat):Bt R w a:=⟨h.os,h.tape,h.output,by rw[h.heap];exact Nat.le_refl _,λk _ _=>by rw[h.heap]⟩
theorem Eqv.blk(h:Eqv w a)(b:Blk w q e n f):Blk a q e n f:=b.same (by rw[h.heap])
def getW(R:Nat)(t:List UInt8):List Addr->Nat->World->World
 | [],_,w=>w
 | p :: ps,k,w=>getW R t ps (k+1) ((w.setCell p (.int .i64 (rdN t k))).setCell ⟨R,1,none⟩ (.int .i64 ((k+1:Nat):Int)))
theorem N9(R:Nat)(t:List UInt8):∀(a:List Addr) (p:Addr) (k:Nat) (w:World),getW R t (a++[p]) k w=((getW R t a k w).setCell p (.int .i64 (rdN t (k+a.length)))).setCell ⟨R,1,none⟩ (.int .i64 ((k+a.length+1:Nat):Int))
 | [],p,k,w=>rfl
 | q :: a,p,k,w=>by
  show getW R t (a++[p]) (k+1) _=_;rw[N9 R t a p (k+1)];simp only[List.length_cons,getW];rw[show k+1+a.length=k+(a.length+1) by omega]
theorem Fa(R:Nat)(t:List UInt8){a:World}:∀(b:List Addr) (k:Nat) (w:World),Bt R a w->(∀p∈b,p.block=R\/a.heap.size<=p.block)->Bt R a (getW R t b k w)
 | [],_,_,h,_=>h
 | p :: b,k,w,h,hp=>Fa R t b (k+1) _ ((h.set (hp p (List.mem_cons_self ..)) _).set (Or.inl rfl) _) λq c=>hp q (List.mem_cons_of_mem _ c)
def Shp(w:World)(q:Nat)(e:TypeId)(n:Nat):Prop:=∃f,Blk w q e n f
theorem Shp.set(h:Shp w q e n)(b j:Nat)(u:Value):Shp (w.setCell ⟨b,j,none⟩ u) q e n:=by
 obtain⟨f,h⟩:=h;by_cases c:q=b
 .subst c;exact⟨_,h.set j u⟩
 exact⟨_,h.other c u⟩
theorem Shp.getW{R:Nat}{t:List UInt8}{q:Nat}{e:TypeId}{n:Nat}:∀(a:List Addr) (k:Nat) (w:World),(∀p∈a,p.spot=none)->Shp w q e n->Shp (getW R t a k w) q e n
 | [],_,_,_,h=>h
 | ⟨b,j,s⟩ :: a,k,w,hp,h=>by
  have d:s=none:=hp _ (List.mem_cons_self ..);subst d;exact Shp.getW a (k+1) _ (λp c=>hp p (List.mem_cons_of_mem _ c)) ((h.set b j _).set R 1 _)
theorem Km(R:Nat)(t:List UInt8){q:Nat}{e:TypeId}{n:Nat}{f:Nat->Value}:∀(a:List Addr) (k:Nat) (w:World),(∀p∈a,q≠p.block)->q≠R->Blk w q e n f->Blk (getW R t a k w) q e n f
 | [],_,_,_,_,h=>h
 | p :: a,k,w,hp,hR,h=>Km R t a (k+1) _ (λc b=>hp c (List.mem_cons_of_mem _ b)) hR ((h.other (hp p (List.mem_cons_self ..)) _).other hR _)
def my(R:Nat)(w:World)(t:List UInt8)(k:Nat):Prop:=Blk w R 84 2 (λj=>(#[.string ⟨t.toArray⟩,.int .i64 (k:Int)]:Array Value).getD j default)
structure qn(w:World)(p:Addr):Prop where
 cell:∃z,w.cell? p=some (.int .i64 z)
 frozen:w.frozen? p=false
 lt:p.block<w.heap.size
theorem qn.set{p:Addr}(h:qn w p)(q:Addr)(v:Int):qn (w.setCell q (.int .i64 v)) p:=by
 refine⟨?_,(World.frozen?_setCell ..).trans h.frozen,by simpa[World.setCell] using h.lt⟩;by_cases e:p=q
 .subst e;obtain⟨z,a⟩:=h.cell;exact⟨v,World.cell?_setCell_same _ _ _ a⟩
 obtain⟨z,a⟩:=h.cell;exact⟨z,(World.cell?_setCell_other _ _ _ _ (λb=>e b.symm)).trans a⟩
theorem qn.getW{R:Nat}{t:List UInt8}{p:Addr}:∀(a:List Addr) (k:Nat) (w:World),qn w p->qn (getW R t a k w) p
 | [],_,_,h=>h
 | q :: a,k,w,h=>qn.getW a (k+1) _ ((h.set q _).set _ _)
theorem qn.eqv{p:Addr}(h:qn w p)(e:Eqv w a):qn a p:=by
 obtain⟨⟨z,f⟩,d,c⟩:=h;have b:a.heap[p.block]?=w.heap[p.block]?:=by rw[e.heap]
 exact⟨⟨z,(World.cell?_of_block b).trans f⟩,(World.frozen?_of_block b).trans d,by rw[e.heap];exact c⟩
theorem my.set{t:List UInt8}{k:Nat}(h:my R w t k)(m:Nat):my R (w.setCell ⟨R,1,none⟩ (.int .i64 (m:Int))) t m :=
 (Blk.set h 1 _).congr (λj a=>by match j,a with|0,_=>rfl|1,_=>rfl)
theorem my.getW{R:Nat}{t:List UInt8}:∀(a:List Addr) (k:Nat) (w:World),(∀p∈a,R≠p.block)->my R w t k->my R (getW R t a k w) t (k+a.length)
 | [],_,_,_,h=>h
 | q :: a,k,w,hp,h=>by
  have c:my R (w.setCell q (.int .i64 (rdN t k))) t k:=Blk.other h (hp q (List.mem_cons_self ..)) _;have:=my.getW a (k+1) _ (λp b=>hp p (List.mem_cons_of_mem _ b)) (c.set (k+1));rw[List.length_cons,show k+(a.length+1)=k+1+a.length by omega];exact this
theorem Y8(t:List UInt8){k:Nat}(a:k<t.length)(w:World):(Instr.index 9 (.string ⟨t.toArray⟩) (.int .i64 (k:Int))).run prog w = .ok (.int .u8 (rdN t k)) w:=by
 have hs:(⟨t.toArray⟩:ByteArray).size=t.length:=by simp[ByteArray.size]
 rw[run_index_string w 9 _ .i64 (k:Int) underlying9,dif_pos ⟨by omega,by rw[hs];omega⟩]
 congr 2
 unfold rdN;simp only[List.getD,List.getElem?_eq_getElem a,Option.getD_some];simp[ByteArray.getElem_eq_getElem_data]
theorem Te(R g:Nat)(t:List UInt8)(k:Nat)(a:List Addr)(w:World)(Q:my R w t k)(D:k<=t.length)(X:t.length<=4096)(z:g≠R)(hl:a.length<=100)
  (U:Blk w g 138 a.length (λj => .pointer (some (a.getD j default)))) (d:∀p∈a,qn w p/\R≠p.block/\g≠p.block) :
  Calls prog 95 #[.pointer (some ⟨R,0,none⟩),.slice (some ⟨g,0,none⟩) a.length a.length] w λe J =>
   (e = .returned (.tuple #[])/\k+a.length<=t.length/\Eqv (getW R t a k w) J)\/(e = .panicked [{ v := .iface 35 (.int .i64 1),recovered:=false }]/\t.length<k+a.length/\∃i,Eqv (getW R t (a.take i) k w) J):=by
 have HR:=hid Q;have HG:=hid U;have x:=hid d;have B:=qa4 D X hl z;clear Q U d D X z;go_enter func95,ntmps95;go_wp2_with fail
 go_loopw [8] (λA m=>∃i:Nat,i<=a.length/\A = .int .i64 i/\Hid (k+i<=t.length)/\Hid (Eqv (getW R t (a.take i) k w) m)) (λA _=>a.length-(intOf A).toNat)
 case atStart=>exact⟨0,Qxz _,rfl,B.out.1,Eqv.refl w⟩
 obtain⟨i,hi,rfl,F,l⟩:=hrel;by_cases n:i<a.length;rotate_left
 .have M:i=a.length:=by omega
  subst M;have V:Hid (Eqv (getW R t a k w) wr):=by
   have h:=l.out;rw[List.take_length] at h;exact h
  clear l;go_wp2_with fail
  go_end0
  exact Or.inl ⟨rfl,F.out,V⟩
 have q0:(0:Int)<=(i:Int):=by omega
 have q1:(i:Int)<(a.length:Int):=by omega
 obtain⟨P,o⟩:∃P,a.getD i default=P:=⟨_,rfl⟩;have r:Hid (a.take (i+1)=a.take i++[P]/\P∈a/\(a.take i).length=i):=by
  refine⟨?_,?_,by simp;omega⟩
  .rw[List.take_add_one,<-o];simp[List.getD,List.getElem?_eq_getElem n]
  rw[<-o];simp[List.getD,List.getElem?_eq_getElem n]
 have q:∀p∈a.take i,p∈a:=λp d=>List.mem_of_mem_take d;have f:Hid (my R wr t (k+i)):=by
  have:=my.getW (R:=R) (t:=t) (a.take i) k w (λp d=>(x.out p (q p d)).2.1) HR.out;rw[r.out.2.2] at this;exact l.out.blk this
 have G:Hid (qn wr P):=(qn.getW (a.take i) k w (x.out P r.out.2.1).1).eqv l.out;have s:=l.out.blk (Km R t (a.take i) k w (λp d=>(x.out p (q p d)).2.2) B.out.2.2.2 HG.out);have z0:wr.cell? ⟨g,i,none⟩=some (.pointer (some P)):=by rw[<-o];exact s.cell n
 have z1:=s.lt;obtain⟨⟨pz,W⟩,Y,pl⟩:=G.out;have r0:wr.cell? ⟨R,0,none⟩=some (.string ⟨t.toArray⟩):=f.out.k 0;have r1:wr.cell? ⟨R,1,none⟩=some (.int .i64 ((k+i:Nat):Int)):=f.out.k 1;have rf:=Blk.frozen f.out 1;have rl:=Blk.lt f.out;clear s;have tl:((⟨t.toArray⟩:ByteArray).size)=t.length:=by simp[ByteArray.size]
 have L:Hid (∀m,Eqv ((wr.setCell P (.int .i64 (rdN t (k+i)))).setCell ⟨R,1,none⟩ (.int .i64 (((k+i+1:Nat):Int)))) m->Eqv (getW R t (a.take (i+1)) k w) m):=λm h=>by
  rw[r.out.1,N9,r.out.2.2];exact((l.out.set P _).set ⟨R,1,none⟩ _).trans h
 generalize hKe:k+i=K at *
 by_cases b:K=t.length
 .have c:=hid b;have T:((K:Int)==(t.length:Int))=true:=by rw[b];simp
  clear b W Y pl;go_wp2_with fail
  go_quiet (fail)
  go_wp2_with fail;exact⟨rfl,Or.inr ⟨rfl,by have:=c.out;omega,i,l.out.trans (Eqv.drewN wr nq)⟩⟩
 have c:Hid (K<t.length):=by have:=F.out;show _<_;omega
 have T:((K:Int)==(t.length:Int))=false:=by simp;omega
 have S:=Y8 t c.out;clear b;have zb:=V8 t K
 generalize rdN t K=Z at *
 have E:wrap64 Z=Z:=by unfold wrap64;omega
 go_wp2_with fail
 go_quiet (fail)
 go_wp2_with fail
 go_region
 have K4:=c.out;have K5:=B.out.2.1;have y:Hid (Eqv (wr.setCell P (.int .i64 Z)) ((wr.drewN (nq+1)).setCell P (.int .i64 Z))):=(Eqv.drewN wr (nq+1)).set P _
 generalize (wr.drewN (nq+1)).setCell P (.int .i64 Z)=H at *
 have u:Hid (my R H t K):=y.out.blk (Blk.other f.out (x.out P r.out.2.1).2.1 _);have y0:H.cell? ⟨R,1,none⟩=some (.int .i64 (K:Int)):=u.out.k 1;have y1:=Blk.frozen u.out 1;have y2:=Blk.lt u.out;clear S E r0 r1 rf rl W Y pl z0 z1 T;go_wp2_with fail;go_roundw
 case rel=>exact⟨i+1,by omega,by go_num,(by show k+(i+1)<=t.length;omega),L.out _ (by rw[show(((K+1:Nat):Int))=(K:Int)+1 by omega];exact y.out.set _ _)⟩
 case measure=>simp[intOf];omega
def tn(L A:Nat)(w:World)(o:Bool)(xs:List Value):Prop:=∃a c,Blk w A 80 2 (λj=>(#[.slice a xs.length c,.bool o]:Array Value).getD j default)/\w.ownsRow L 5 1 (.slice a xs.length c) xs.length xs
def nd(z:Int):Value := .int .u8 (z%256)
theorem Zh:(prog.info? 5).map (λi=>(i.zero,i.size,i.bytes))=some (some (.int .u8 0),1,1):=by kernel_rfl
theorem xg{size:Nat}{d:List Value}(h:w.ownsRow A e size v n d)(i:Blk w q t m f)(b:e≠t)(j:Nat)(u:Value):(w.setCell ⟨q,j,none⟩ u).ownsRow A e size v n d:=by
 refine⟨h.1,h.2.imp_right λ⟨g,cap,cur,h1,h2,h3,h4⟩=>⟨g,cap,cur,h1,h2,?_,h4⟩⟩;rw[Below.heap_setCell w ⟨q,j,none⟩ u g (λk=>by
  obtain⟨c2,a,_⟩:=i;have c:g=q:=k;subst c;rw[a] at h3;cases h3;exact b rfl)]
 exact h3
theorem Aq{size:Nat}{b:List Value}(h:w.ownsRow A e size v n b):∃a c,v = .slice a n c/\n<=maxLen:=by
 obtain⟨k,⟨rfl,rfl⟩|⟨g,cap,cur,rfl,i,j,f,d,_⟩⟩:=h
 .exact⟨none,0,rfl,Qxz _⟩
 exact⟨_,_,rfl,by omega⟩
theorem pu.bel{L:Nat}(h:pu A e w a)(b:L<=A)(hs:L<=w.heap.size):Below L w a:=h.below brf b hs
theorem F4{size:Nat}{b:World}{i:List Value}(h:w.ownsRow A e size v n i)(d:w.grownBy b v.ownBlock):pu A e w b:=by
 refine⟨_,d,λk a => ?_⟩;obtain⟨_,⟨rfl,_⟩|⟨g,cap,cur,rfl,f,c,_⟩⟩:=h
 .cases a
 simp only[Value.ownBlock,Qkx] at a;subst a;exact⟨f,cur,c⟩
theorem tn.mk'{L:Nat}{o:Bool}{ys:List Value}(d:Blk w A 80 2 (λj=>(#[v,.bool o]:Array Value).getD j default))(b:w.ownsRow L 5 1 v ys.length ys):tn L A w o ys:=by
 obtain⟨a,c,rfl,_⟩:=Aq b;exact⟨a,c,d,b⟩
theorem tn.store{L:Nat}{b:Bool}{ys:List Value}{u:Value}(a:Blk w A 80 2 (λj=>(#[u,.bool b]:Array Value).getD j default))(c:w.ownsRow L 5 1 v ys.length ys):tn L A (w.setCell ⟨A,0,none⟩ v) b ys :=
 tn.mk' ((a.set 0 v).congr (λj d=>by match j,d with|0,_=>rfl|1,_=>rfl)) (xg c a (by decide) 0 v)
theorem Tc(L A:Nat)(o:Bool)(r:List Value)(g:Nat)(zs:List Int)(w:World)(hL:L<=A)(hw:tn L A w o r)(hz:Blk w g 3 zs.length (λj => .int .i64 (zs.getD j 0)))(hm:r.length+zs.length<=70368744177664):
  Calls prog 43 #[.pointer (some ⟨A,0,none⟩),.slice (some ⟨g,0,none⟩) zs.length zs.length] w λe w'=>e = .returned (.tuple #[])/\tn L A w' (o||zs.any sq) (r++zs.map nd)/\Below L w w':=by
 have HM:=hid hm;have s:=hid hL;have ag:Hid (tn L A w o r):=hw;have aj:=hid hz;obtain⟨iB,am,ai,ak,ao⟩:=info_parts Zh;have zl:zs.length<=70368744177664:=by omega
 clear hm hL hw hz;go_enter func43,ntmps43;go_wp2_with fail
 go_loopw [8] (λkv wk=>∃k:Nat,k<=zs.length/\kv = .int .i64 k/\Hid (tn L A wk (o||(zs.take k).any sq) (r++(zs.take k).map nd))/\Hid (Blk wk g 3 zs.length (λj => .int .i64 (zs.getD j 0)))/\Hid (Below L w wk)) (λkv _=>zs.length-(intOf kv).toNat)
 case atStart=>exact⟨0,Qxz _,rfl,(by show tn L A w (o||(zs.take 0).any sq) (r++(zs.take 0).map nd);simpa using ag.out),aj,Below.refl _ _⟩
 obtain⟨k,hk,rfl,X,J,HB⟩:=hrel;clear ag aj;by_cases ah:k<zs.length;rotate_left
 .have q1:(zs.length:Int)<=(k:Int):=by omega
  have a0:k=zs.length:=by omega
  subst a0;have a4:Hid (tn L A wr (o||zs.any sq) (r++zs.map nd)):=by
   have h:=X.out;rw[List.take_length] at h;exact h
  clear X J;go_wp2_with fail
  go_end0
  exact⟨rfl,a4,HB⟩
 have q0:(0:Int)<=(k:Int):=by omega
 have q1:(k:Int)<(zs.length:Int):=by omega
 obtain⟨a,c,i,hO⟩:=X.out;obtain⟨Z,ae⟩:∃Z,zs.getD k 0=Z:=⟨_,rfl⟩;have z0:wr.cell? ⟨g,k,none⟩=some (.int .i64 Z):=by rw[<-ae];exact J.out.cell ah
 have z1:=J.out.lt;have HT:Hid (zs.take (k+1)=zs.take k++[Z]):=by
  show _=_;rw[List.take_add_one,<-ae];simp[List.getD,List.getElem?_eq_getElem ah]
 generalize hys:r++(zs.take k).map nd=ys at *
 have af:ys.length=r.length+k:=by rw[<-hys];simp;omega
 generalize hoo:(o||(zs.take k).any sq)=oo at *
 have HN:Hid ((o||(zs.take (k+1)).any sq)=(oo||sq Z)/\r++(zs.take (k+1)).map nd=ys++[nd Z]):=by
  refine⟨?_,?_⟩
  .rw[HT.out,List.any_append,<-hoo];simp[Bool.or_assoc]
  rw[HT.out,List.map_append,<-hys];simp
 have c0:wr.cell? ⟨A,0,none⟩=some (.slice a ys.length c):=i.k 0;have c1:wr.cell? ⟨A,1,none⟩=some (.bool oo):=i.k 1;have f0:=i.frozen 0;have f1:=i.frozen 1;have al:=i.lt;cases oo;rotate_left
 .obtain⟨v,z,y,K,O4,Z4,Y⟩:∃W,wr.setCell ⟨A,1,none⟩ (.bool (true))=W/\W.heap.size=wr.heap.size/\Blk W A 80 2 (λj=>(#[.slice a ys.length c,.bool (true)]:Array Value).getD j default)/\W.ownsRow L 5 1 (.slice a ys.length c) ys.length ys/\Blk W g 3 zs.length (λj => .int .i64 (zs.getD j 0))/\Below L w W :=
   ⟨_,rfl,by simp[World.setCell],(i.set 1 _).congr (λj l=>by match j,l with|0,_=>rfl|1,_=>rfl),xg hO i (by decide) 1 _,J.out.other (a:=⟨A,1,none⟩) (Blk.ne2 J.out i (by decide)) _,HB.out.setCell (p:=⟨A,1,none⟩) s.out _⟩
  obtain⟨m,q,f⟩:∃W,v.alloc (.cells #[.int .u8 (Z%256)] 5)=W/\Below v.heap.size v W:=⟨_,rfl,brf.alloc nlr _⟩;have G:Hid (L<=v.heap.size):=Qzx s.out (Nat.le_of_lt K.lt);have B:Hid (∀j u,([nd Z]:List Value)[j]?=some u->m.cell? ((⟨wr.heap.size,0,none⟩:Addr).add j)=some u):=by
   intro j u l;have hl:j<1:=(List.getElem?_eq_some_iff.1 l).1;have h0:j=0:=by omega
   subst h0;rw[<-q,<-y];simp[Addr.add,nd] at l ⊢;exact l
  have n:Hid (m.ownsRow L 5 1 (.slice a ys.length c) ys.length ys):=lv O4 f;have b:=qa3 (K.below f) (Z4.below f) (Y.trans (f.mono G.out));have E:Hid (L<=m.heap.size):=Qzx G.out f.size;have F:Hid ((wr.setCell ⟨A,1,none⟩ (.bool (true))).alloc (.cells #[.int .u8 (Z%256)] 5)=m):=by rw[z];exact q
  have D:Hid (ys.length+1<=70368744177664):=by have:=HM.out;show _<=_;omega
  clear z q K O4 Z4 Y f i hO hys hoo af y;go_wp2_with(at_builtin;rw[F.out];refine wpList_append_own m rfl (.tmp 28) (.tmp 31) 78 rfl L 5 iB (.int .u8 0) 1 1 underlying78 am ai ak ao rfl (by decide) (.slice a ys.length c) ys.length ys rfl n.out ⟨wr.heap.size,0,none⟩ 1 1 [nd Z] rfl rfl B.out (λu U=>by simp[nd] at U;subst U;rfl) (by have:=D.out;unfold maxLen;omega) (by have:=D.out;omega) E.out ?_);intro v2 x P V _;obtain⟨M,c2,rfl,-⟩:=Aq P;have t:=F4 n.out V;have d:=t.blk b.out.1 (by decide);have H:=t.blk b.out.2.1 (by decide);have Q:=t.below b.out.2.2 nlr E.out;have HF:Hid (tn L A (x.setCell ⟨A,0,none⟩ (.slice M (ys.length+1) c2)) (true) (ys++[nd Z])):=tn.store d (by rw[show(ys++[nd Z]).length=ys.length+1 by simp];exact P);have T:Hid (Blk (x.setCell ⟨A,0,none⟩ (.slice M (ys.length+1) c2)) g 3 zs.length (λj => .int .i64 (zs.getD j 0))):=H.other (a:=⟨A,0,none⟩) (Blk.ne2 H d (by decide)) _;have S:Hid (Below L w (x.setCell ⟨A,0,none⟩ (.slice M (ys.length+1) c2))):=Q.setCell (p:=⟨A,0,none⟩) s.out _;have x0:x.cell? ⟨A,0,none⟩=some (.slice a ys.length c):=d.k 0;have x1:=d.frozen 0;have x2:=d.lt;clear P V t d H Q b n B F c0 c1 f0 f1 al z0 z1
  try simp only[Act.put,Qvq,Qwx,Qwz]
  go_wp2_with fail;go_roundw
  case rel=>exact⟨k+1,by omega,by go_num,(by rw[HN.out.1,HN.out.2];exact HF),T,S⟩
  case measure=>simp[intOf];omega
 go_wp2_with fail;refine(cn Z 0 255 wr).mono ?_;rintro e w1 ⟨rfl,an⟩;rw[an];clear an;obtain⟨v,z,y,K,O4,Z4,Y⟩:∃W,wr.setCell ⟨A,1,none⟩ (.bool (!inB Z 0 255))=W/\W.heap.size=wr.heap.size/\Blk W A 80 2 (λj=>(#[.slice a ys.length c,.bool (!inB Z 0 255)]:Array Value).getD j default)/\W.ownsRow L 5 1 (.slice a ys.length c) ys.length ys/\Blk W g 3 zs.length (λj => .int .i64 (zs.getD j 0))/\Below L w W :=
  ⟨_,rfl,by simp[World.setCell],(i.set 1 _).congr (λj l=>by match j,l with|0,_=>rfl|1,_=>rfl),xg hO i (by decide) 1 _,J.out.other (a:=⟨A,1,none⟩) (Blk.ne2 J.out i (by decide)) _,HB.out.setCell (p:=⟨A,1,none⟩) s.out _⟩
 obtain⟨m,q,f⟩:∃W,v.alloc (.cells #[.int .u8 (Z%256)] 5)=W/\Below v.heap.size v W:=⟨_,rfl,brf.alloc nlr _⟩;have G:Hid (L<=v.heap.size):=Qzx s.out (Nat.le_of_lt K.lt);have B:Hid (∀j u,([nd Z]:List Value)[j]?=some u->m.cell? ((⟨wr.heap.size,0,none⟩:Addr).add j)=some u):=by
  intro j u l;have hl:j<1:=(List.getElem?_eq_some_iff.1 l).1;have h0:j=0:=by omega
  subst h0;rw[<-q,<-y];simp[Addr.add,nd] at l ⊢;exact l
 have n:Hid (m.ownsRow L 5 1 (.slice a ys.length c) ys.length ys):=lv O4 f;have b:=qa3 (K.below f) (Z4.below f) (Y.trans (f.mono G.out));have E:Hid (L<=m.heap.size):=Qzx G.out f.size;have F:Hid ((wr.setCell ⟨A,1,none⟩ (.bool (!inB Z 0 255))).alloc (.cells #[.int .u8 (Z%256)] 5)=m):=by rw[z];exact q
 have D:Hid (ys.length+1<=70368744177664):=by have:=HM.out;show _<=_;omega
 clear z q K O4 Z4 Y f i hO hys hoo af y;go_wp2_with(at_builtin;rw[F.out];refine wpList_append_own m rfl (.tmp 28) (.tmp 31) 78 rfl L 5 iB (.int .u8 0) 1 1 underlying78 am ai ak ao rfl (by decide) (.slice a ys.length c) ys.length ys rfl n.out ⟨wr.heap.size,0,none⟩ 1 1 [nd Z] rfl rfl B.out (λu U=>by simp[nd] at U;subst U;rfl) (by have:=D.out;unfold maxLen;omega) (by have:=D.out;omega) E.out ?_);intro v2 x P V _;obtain⟨M,c2,rfl,-⟩:=Aq P;have t:=F4 n.out V;have d:=t.blk b.out.1 (by decide);have H:=t.blk b.out.2.1 (by decide);have Q:=t.below b.out.2.2 nlr E.out;have HF:Hid (tn L A (x.setCell ⟨A,0,none⟩ (.slice M (ys.length+1) c2)) (!inB Z 0 255) (ys++[nd Z])):=tn.store d (by rw[show(ys++[nd Z]).length=ys.length+1 by simp];exact P);have T:Hid (Blk (x.setCell ⟨A,0,none⟩ (.slice M (ys.length+1) c2)) g 3 zs.length (λj => .int .i64 (zs.getD j 0))):=H.other (a:=⟨A,0,none⟩) (Blk.ne2 H d (by decide)) _;have S:Hid (Below L w (x.setCell ⟨A,0,none⟩ (.slice M (ys.length+1) c2))):=Q.setCell (p:=⟨A,0,none⟩) s.out _;have x0:x.cell? ⟨A,0,none⟩=some (.slice a ys.length c):=d.k 0;have x1:=d.frozen 0;have x2:=d.lt;clear P V t d H Q b n B F c0 c1 f0 f1 al z0 z1
 try simp only[Act.put,Qvq,Qwx,Qwz]
 go_wp2_with fail;go_roundw
 case rel=>exact⟨k+1,by omega,by go_num,(by rw[HN.out.1,HN.out.2];exact HF),T,S⟩
 case measure=>simp[intOf];omega
end Go.Proofs.YtbcacebifpagpafGreat
