/- Texts that were built one behind the other, joined; what is not reached is left out. -/
import Derived.Test.YtbcacebifpagpagGreatK1Log
import Derived.Lib.QuietBelow
import Derived.Maps.AppendAt
import Derived.ArgAppend
import Derived.Deep.Upon
import Derived.BigQuiet
import Derived.Deep.QuietTactic
import Derived.RegionTactic
import Derived.ChangeAlike
import Derived.BigRegion
set_option maxHeartbeats 4000000
set_option maxRecDepth 100000
namespace Go.Proofs.YtbcacebifpagpagGreat
variable{n b A g o l c i q j R L M:Nat}{w a d:World}{s x y u:St}{r W J D:Int}{e H:TypeId}{p:Pl}{z O:Nat->Hd}{f f':Nat->Value}{Q:Exit->Act->World->Prop}{v c1 c3 c2:Value}{xs:List Value}{U V:Hs}{X Y:Int->Int->Int}{P:Program}{h Z:Hd}{t:List UInt8}{E:Hd->Bool}{z' zs:Nat->Int}{S:World->Prop}{a1:Act}{K:Act->World->Prop}
open _root_.Go.Proofs.Tryz
open Go.RowKit Go.Shelf
set_option linter.unusedVariables false
theorem Th(x:Od)(w:World):
  Calls prog 68 #[x.val] w λe a=>e = .returned (.bool (rb x))/\Below w.heap.size w a:=by
 unfold rb Od.val;go_enter func68,ntmps68;go_wp2_with(go_at_call 63;refine ah (co _ _ _ _) ?_)
 all_goals go_ret
 all_goals exact⟨rfl,brf.alloc nlr _⟩
theorem Oz(B:Nat)(p:Pl)(x:Hd)(w:World)(les:p.ns<=p.cs)(caps:p.cs<=maxLen)(f:B<w.heap.size)(c1:w.cell? ⟨B,1,none⟩=some (.slice p.sa p.ns p.cs)):
  Calls prog 70 #[x.val,.pointer (some ⟨B,0,none⟩)] w λe c=>e = .returned (.bool (ki p x))/\Below w.heap.size w c:=by
 have a:p.ns<=maxLen:=Qzx les caps;unfold maxLen at caps;unfold ki Hd.val;cases h:inB x.o 0 ((p.ns:Int)-1)
 .go_enter func70,ntmps70;go_wp2_with(first|(go_at_call 63;refine ah (co _ _ _ _) ?_)|(go_at_call 71;refine ah (dm _ _ _ a) ?_))
  all_goals go_ret
  all_goals exact⟨by simp,brf.alloc nlr _⟩
 cases g:inB x.l 1 200
 .go_enter func70,ntmps70;go_wp2_with(first|(go_at_call 63;refine ah (co _ _ _ _) ?_)|(go_at_call 71;refine ah (dm _ _ _ a) ?_))
  all_goals go_ret
  all_goals exact⟨by simp,brf.alloc nlr _⟩
 cases d:inB x.b 0 x.l
 .go_enter func70,ntmps70;go_wp2_with(first|(go_at_call 63;refine ah (co _ _ _ _) ?_)|(go_at_call 71;refine ah (dm _ _ _ a) ?_))
  all_goals go_ret
  all_goals exact⟨by simp,brf.alloc nlr _⟩
 go_enter func70,ntmps70;go_wp2_with(first|(go_at_call 63;refine ah (co _ _ _ _) ?_)|(go_at_call 71;refine ah (dm _ _ _ a) ?_))
 all_goals go_ret
 all_goals exact⟨by simp,brf.alloc nlr _⟩
theorem Q7(B:Nat)(p:Pl)(x:Hd)(w:World)(les:p.ns<=p.cs)(caps:p.cs<=maxLen)(leb:p.nb<=p.cb)(capb:p.cb<=maxLen)(i:B<w.heap.size)(f:w.cell? ⟨B,0,none⟩=some (.slice p.ab p.nb p.cb))(c1:w.cell? ⟨B,1,none⟩=some (.slice p.sa p.ns p.cs)):
  Calls prog 78 #[x.val,.pointer (some ⟨B,0,none⟩)] w λe d=>e = .returned (.bool (mp p x))/\Below w.heap.size w d:=by
 have c:p.ns<=maxLen:=Qzx les caps;have a:p.nb<=maxLen:=Qzx leb capb;unfold maxLen at caps capb;unfold mp Hd.val;cases g:inB x.o 0 ((p.ns:Int)-1)
 .go_enter func78,ntmps78;go_wp2_with(first|(go_at_call 63;refine ah (co _ _ _ _) ?_)|(go_at_call 71;first|refine ah (dm _ _ _ c) ?_|refine ah (dm _ _ _ a) ?_))
  all_goals go_ret
  all_goals exact⟨by simp,brf.alloc nlr _⟩
 cases k:inB x.l 0 ((p.nb:Int)-1)
 .go_enter func78,ntmps78;go_wp2_with(first|(go_at_call 63;refine ah (co _ _ _ _) ?_)|(go_at_call 71;first|refine ah (dm _ _ _ c) ?_|refine ah (dm _ _ _ a) ?_))
  all_goals go_ret
  all_goals exact⟨by simp,brf.alloc nlr _⟩
 cases h:inB x.b 0 ((p.nb:Int)-1)
 .go_enter func78,ntmps78;go_wp2_with(first|(go_at_call 63;refine ah (co _ _ _ _) ?_)|(go_at_call 71;first|refine ah (dm _ _ _ c) ?_|refine ah (dm _ _ _ a) ?_))
  all_goals go_ret
  all_goals exact⟨by simp,brf.alloc nlr _⟩
 cases j:(x.l==x.b)
 .go_enter func78,ntmps78;go_wp2_with(first|(go_at_call 63;refine ah (co _ _ _ _) ?_)|(go_at_call 71;first|refine ah (dm _ _ _ c) ?_|refine ah (dm _ _ _ a) ?_))
  all_goals go_ret
  all_goals exact⟨by simp,brf.alloc nlr _⟩
 go_enter func78,ntmps78;go_wp2_with(first|(go_at_call 63;refine ah (co _ _ _ _) ?_)|(go_at_call 71;first|refine ah (dm _ _ _ c) ?_|refine ah (dm _ _ _ a) ?_))
 all_goals go_ret
 all_goals exact⟨by simp,brf.alloc nlr _⟩
theorem Q9(B:Nat)(x low:Int)(w:World)(b:w.cell? ⟨B,0,none⟩=some (.int .i64 low)):
  Calls prog 80 #[.int .i64 x,.pointer (some ⟨B,0,none⟩)] w λe a=>e = .returned (.bool (!inB x low 1048576))/\a=w:=by
 go_enter func80,ntmps80;go_wp2_with(go_at_call 63;refine ah (co _ _ _ _) ?_)
 all_goals go_ret
 all_goals exact⟨rfl,rfl⟩
theorem D3(B:Nat)(p:Pl)(r:Rw)(low:Int)(w:World)(g:r.At w)(les:p.ns<=p.cs)(caps:p.cs<=maxLen)(q:B<w.heap.size)(c1:w.cell? ⟨B,1,none⟩=some (.slice p.sa p.ns p.cs)):
  Calls prog 79 #[.slice r.a r.n r.c,.int .i64 low,.pointer (some ⟨B,0,none⟩)] w λe o=>e = .returned (.bool (mh p r low))/\Below w.heap.size w o:=by
 have b:=g.cap;have l:=g.le;have f:=b;unfold maxLen at f caps;have d:Below w.heap.size w (w.alloc (.cells #[.int .i64 low] 3)):=(Below.refl w.heap.size w).alloc nlr _;have ints:=(g.below d).ints;cases k:((r.n:Int) !=(p.ns:Int))
 .go_enter func79,ntmps79;go_wp2_with fail;refine(aau 80 #[.pointer (some ⟨w.heap.size,0,none⟩)] (λi => !inB (r.z i) low 1048576) _ _ _ _ l b r.z ints (enters_of func80 (by kernel_rfl) rfl) (λi j _ h=>(Q9 w.heap.size _ low j ((h.cell (p:=⟨w.heap.size,0,none⟩) (by simp)).trans (by simp))).mono λ_ _ h=>⟨h.1,h.2▸Below.refl _ _⟩)).mono ?_;rintro e j ⟨rfl,m⟩;go_wp2_with fail;go_ret;exact⟨by simp[mh,k],d.trans (m.mono (by simp))⟩
 go_enter func79,ntmps79;go_wp2_with fail;go_ret;exact⟨by simp[mh,k],d⟩
open Go.Sort
def lx(w:World)(Bp Bs:Nat)(p:Pl)(s:St):Prop :=
 (Bp<w.heap.size/\w.cell? ⟨Bp,0,none⟩=some (.slice p.ab p.nb p.cb)/\w.cell? ⟨Bp,1,none⟩=some (.slice p.sa p.ns p.cs)) /\
 Bs<w.heap.size/\w.cell? ⟨Bs,0,none⟩=some (.slice s.on.a s.on.n s.on.c)/\w.cell? ⟨Bs,1,none⟩=some (.slice s.os.a s.os.n s.os.c)/\w.cell? ⟨Bs,2,none⟩=some (.slice s.hs.a s.hs.n s.hs.c) /\
  w.cell? ⟨Bs,3,none⟩=some (.slice s.ms.a s.ms.n s.ms.c)/\w.cell? ⟨Bs,4,none⟩=some (.slice s.si.a s.si.n s.si.c)/\w.cell? ⟨Bs,5,none⟩=some (.slice s.so.a s.so.n s.so.c)/\w.cell? ⟨Bs,6,none⟩=some (.slice s.sf.a s.sf.n s.sf.c)
theorem lx.below{i:World}{f:Nat}(h:lx w g f p s)(e:Below w.heap.size w i):lx i g f p s:=by
 obtain⟨⟨a,b,c⟩,d,e0,m,l,n,k,j,o⟩:=h;exact⟨⟨Xzx a e.size,(e.cell (p:=⟨g,0,none⟩) a).trans b,(e.cell (p:=⟨g,1,none⟩) a).trans c⟩,Xzx d e.size,(e.cell (p:=⟨f,0,none⟩) d).trans e0,(e.cell (p:=⟨f,1,none⟩) d).trans m,(e.cell (p:=⟨f,2,none⟩) d).trans l,(e.cell (p:=⟨f,3,none⟩) d).trans n,(e.cell (p:=⟨f,4,none⟩) d).trans k,(e.cell (p:=⟨f,5,none⟩) d).trans j,(e.cell (p:=⟨f,6,none⟩) d).trans o⟩
theorem nt(w:World)(p:Pl)(s:St)(t u:TypeId):lx ((w.alloc (.cells #[.slice p.ab p.nb p.cb,.slice p.sa p.ns p.cs] t)).alloc (.cells s.cells u)) w.heap.size (w.heap.size+1) p s:=by
 have a:=(Blk.new w #[.slice p.ab p.nb p.cb,.slice p.sa p.ns p.cs] t).alloc (.cells s.cells u);have hs:=Blk.new (w.alloc (.cells #[.slice p.ab p.nb p.cb,.slice p.sa p.ns p.cs] t)) s.cells u;rw[World.size_alloc] at hs;exact⟨⟨a.lt,a.cell (j:=0) (by simp),a.cell (j:=1) (by simp)⟩,hs.lt,hs.cell (j:=0) (by simp[St.cells]),hs.cell (j:=1) (by simp[St.cells]),hs.cell (j:=2) (by simp[St.cells]),hs.cell (j:=3) (by simp[St.cells]),hs.cell (j:=4) (by simp[St.cells]),hs.cell (j:=5) (by simp[St.cells]),hs.cell (j:=6) (by simp[St.cells])⟩
theorem ix(w:World)(o a:Obj):Below w.heap.size w ((w.alloc o).alloc a):=((Below.refl w.heap.size w).alloc nlr o).alloc (by simp) a
theorem O0(B f:Nat)(p:Pl)(x:Od)(w:World)(hx:x.ls.At w)(les:p.ns<=p.cs)(caps:p.cs<=maxLen)(g:f<w.heap.size)(c1:w.cell? ⟨f,1,none⟩=some (.slice p.sa p.ns p.cs))(u:B<w.heap.size)(c2:w.cell? ⟨B,0,none⟩=some (.func (.func 70) #[] #[.pointer (some ⟨f,0,none⟩)])):
  Calls prog 72 #[x.val,.pointer (some ⟨B,0,none⟩)] w λe t=>e = .returned (.bool (mf p x))/\Below w.heap.size w t:=by
 unfold Od.val;have d:=hx.cap;have q:=hx.le;have l:=d;unfold maxLen at l;have b:Below w.heap.size w (w.alloc (.cells #[.int .i64 x.k,.slice x.ls.a x.ls.n x.ls.c] 57)):=(Below.refl w.heap.size w).alloc nlr _;have s:=(hx.below b).hds;cases o:inB x.k 0 2
 .go_enter func72,ntmps72;go_wp2_with(go_at_call 63;refine ah (co _ _ _ _) ?_);go_ret;exact⟨by simp[mf,o],b⟩
 go_enter func72,ntmps72;go_wp2_with(go_at_call 63;refine ah (co _ _ _ _) ?_);refine(M7 70 #[.pointer (some ⟨f,0,none⟩)] (λj=>ki p (x.ls.z j)) _ _ _ _ q d x.ls.z s (enters_of func70 (by kernel_rfl) rfl) (λi m _ h=>Oz f p _ m les caps (Xzx g (b.trans (h.mono b.size)).size) (((b.trans (h.mono b.size)).cell (p:=⟨f,1,none⟩) g).trans c1))).mono ?_;rintro e m ⟨rfl,r⟩;go_wp2_with fail;go_ret;exact⟨by simp[mf,o],b.trans (r.mono b.size)⟩
theorem Uu(s:St)(w:World)(hs:s.At w):
  Calls prog 33 #[s.val] w λe o=>e = .returned (.bool (gh s))/\Below w.heap.size w o:=by
 unfold St.val;have f:=hs.os.cap;have h:=hs.os.le;have a:Below w.heap.size w (w.alloc (.cells s.cells 31)):=(Below.refl w.heap.size w).alloc nlr _;have g:=(hs.os.below a).ods;unfold St.cells at a g;cases c:decide (4<s.os.n);rotate_left
 .have l:(4:Int)<(s.os.n:Int):=by have:=of_decide_eq_true c;omega
  have b:=hid c;clear c;go_enter func33,ntmps33;go_wp2_with fail;go_ret;exact⟨by simp[gh,b.out],a⟩
 have l:¬(4:Int)<(s.os.n:Int):=by have:=of_decide_eq_false c;omega
 cases d:decide (8<s.ms.n)
 .have j:¬(8:Int)<(s.ms.n:Int):=by have:=of_decide_eq_false d;omega
  have b:=qa2 c d;clear c d;go_enter func33,ntmps33;go_wp2_with fail;refine(abz 68 #[] (λi=>rb (s.os.z i)) _ _ _ _ h f s.os.z g (enters_of func68 (by kernel_rfl) rfl) (λi m _ _=>by rw[Array.append_empty];exact Th _ _)).mono ?_;rintro e m ⟨rfl,k⟩;go_wp2_with fail;go_ret;exact⟨by simp[gh,b.out.1,b.out.2],a.trans (k.mono a.size)⟩
 have j:(8:Int)<(s.ms.n:Int):=by have:=of_decide_eq_true d;omega
 have b:=hid d;clear c d;go_enter func33,ntmps33;go_wp2_with fail;go_ret;exact⟨by simp[gh,b.out],a⟩
theorem Q8(p:Pl)(s:St)(w:World)(r:p.At w)(hs:s.At w):
  Calls prog 34 #[p.val,s.val] w λe A=>e = .returned (.bool (jo p s))/\Below w.heap.size w A:=by
 have X:=nt w p s 25 31;have f:=ix w (.cells #[.slice p.ab p.nb p.cb,.slice p.sa p.ns p.cs] 25) (.cells s.cells 31);unfold St.cells at X f;have d:=hs.os.cap;have u:=hs.os.le;unfold Pl.val St.val;go_enter func34,ntmps34;go_wp2_with fail;obtain⟨W,v,l,m⟩:∃W,(((w.alloc (.cells #[.slice p.ab p.nb p.cb,.slice p.sa p.ns p.cs] 25)).alloc (.cells #[.slice s.on.a s.on.n s.on.c,.slice s.os.a s.os.n s.os.c,.slice s.hs.a s.hs.n s.hs.c,.slice s.ms.a s.ms.n s.ms.c,.slice s.si.a s.si.n s.si.c,.slice s.so.a s.so.n s.so.c,.slice s.sf.a s.sf.n s.sf.c] 31)).alloc (.cells #[.func (.func 70) #[] #[.pointer (some ⟨w.heap.size,0,none⟩)]] 104))=W/\Below (w.heap.size+2) ((w.alloc (.cells #[.slice p.ab p.nb p.cb,.slice p.sa p.ns p.cs] 25)).alloc (.cells #[.slice s.on.a s.on.n s.on.c,.slice s.os.a s.os.n s.os.c,.slice s.hs.a s.hs.n s.hs.c,.slice s.ms.a s.ms.n s.ms.c,.slice s.si.a s.si.n s.si.c,.slice s.so.a s.so.n s.so.c,.slice s.sf.a s.sf.n s.sf.c] 31)) W/\Blk W (w.heap.size+1+1) 104 1 (λj=>(#[.func (.func 70) #[] #[.pointer (some ⟨w.heap.size,0,none⟩)]]:Array Value).getD j default):=
  ⟨_,rfl,brf.alloc (by simp) _,Blk.mk' (by simp) rfl⟩
 rw[v];have B:=X.below (by simpa using l);have b:Below w.heap.size w W:=f.trans (l.mono (by omega));clear X v;have g:=(hs.os.below b).ods;refine(abz 72 #[.pointer (some ⟨w.heap.size+1+1,0,none⟩)] (λi=>mf p (s.os.z i)) _ _ _ _ u d s.os.z g (enters_of func72 (by kernel_rfl) rfl) (λi o hi h => ?_)).mono ?_
 .obtain⟨_,_,_,_,_,_,y⟩:=(Ch.below g h) i hi;have q:=B.below h;have x:=m.below h;exact O0 (w.heap.size+1+1) w.heap.size p _ o y r.les r.caps q.1.1 q.1.2.2 x.lt (x.k 0)
 rintro e o ⟨rfl,t⟩;go_wp2_with fail;go_ret;exact⟨rfl,b.trans (t.mono b.size)⟩
theorem Cd(w:World)(p:Pl)(s:St):∃W,((w.alloc (.cells #[.slice p.ab p.nb p.cb,.slice p.sa p.ns p.cs] 25)).alloc (.cells #[.slice s.on.a s.on.n s.on.c,.slice s.os.a s.os.n s.os.c,.slice s.hs.a s.hs.n s.hs.c,.slice s.ms.a s.ms.n s.ms.c,.slice s.si.a s.si.n s.si.c,.slice s.so.a s.so.n s.so.c,.slice s.sf.a s.sf.n s.sf.c] 31)).alloc (.cells #[.slice .none 0 0,.slice .none 0 0,.slice .none 0 0,.slice .none 0 0,.slice .none 0 0,.slice .none 0 0,.slice .none 0 0] 31)=W/\Below w.heap.size w W/\lx W w.heap.size (w.heap.size+1) p s/\Blk W (w.heap.size+2) 31 7 (λ_ => .slice .none 0 0):=
 ⟨_,rfl,(ix _ _ _).alloc (by simp;omega) _,(nt w p s _ _).below ((Below.refl _ _).alloc (Nat.le_refl _) _),(Blk.mk' (cur:=#[.slice .none 0 0,.slice .none 0 0,.slice .none 0 0,.slice .none 0 0,.slice .none 0 0,.slice .none 0 0,.slice .none 0 0]) (by simp) rfl).congr (λj b=>by match j,b with|0,_=>rfl|1,_=>rfl|2,_=>rfl|3,_=>rfl|4,_=>rfl|5,_=>rfl|6,_=>rfl)⟩
theorem Bb{c:World}(e:p.At w)(hs:s.At w)(b:Below w.heap.size w c)(d:lx c w.heap.size (w.heap.size+1) p s)(f:Blk c (w.heap.size+2) 31 7 (λ_ => .slice .none 0 0)):Hid (∀a,Below c.heap.size c a->lx a w.heap.size (w.heap.size+1) p s/\p.At a/\s.At a/\Below w.heap.size w a/\Blk a (w.heap.size+2) 31 7 (λ_ => .slice .none 0 0)):=λa h=>⟨d.below h,(e.below b).below h,(hs.below b).below h,b.trans (h.mono b.size),f.below h⟩
theorem Jr(w:World)(p:Pl)(s:St):∃W,(w.alloc (.cells #[.slice p.ab p.nb p.cb,.slice p.sa p.ns p.cs] 25)).alloc (.cells #[.slice s.on.a s.on.n s.on.c,.slice s.os.a s.os.n s.os.c,.slice s.hs.a s.hs.n s.hs.c,.slice s.ms.a s.ms.n s.ms.c,.slice s.si.a s.si.n s.si.c,.slice s.so.a s.so.n s.so.c,.slice s.sf.a s.sf.n s.sf.c] 31)=W/\Below w.heap.size w W/\lx W w.heap.size (w.heap.size+1) p s:=⟨_,rfl,ix _ _ _,nt w p s _ _⟩
theorem Hu{c:World}(e:p.At w)(hs:s.At w)(a:Below w.heap.size w c)(d:lx c w.heap.size (w.heap.size+1) p s):Hid (∀b,Below c.heap.size c b->lx b w.heap.size (w.heap.size+1) p s/\p.At b/\s.At b/\Below w.heap.size w b):=λb h=>⟨d.below h,(e.below a).below h,(hs.below a).below h,a.trans (h.mono a.size)⟩
theorem R0(p:Pl)(s:St)(w:World)(b:p.At w)(hs:s.At w):
  Calls prog 36 #[p.val,s.val] w λe l=>e = .returned (.bool (kt p s))/\Below w.heap.size w l:=by
 have X:=nt w p s 25 31;have a:=ix w (.cells #[.slice p.ab p.nb p.cb,.slice p.sa p.ns p.cs] 25) (.cells s.cells 31);have d:=(hs.ms.below a).hds;unfold St.cells at X a d;have c:=hs.ms.cap;have k:=hs.ms.le;unfold Pl.val St.val;go_enter func36,ntmps36;go_wp2_with fail;refine(adv 78 #[.pointer (some ⟨w.heap.size,0,none⟩)] (λi=>mp p (s.ms.z i)) _ _ _ _ k c s.ms.z d (enters_of func78 (by kernel_rfl) rfl) (λi g hi h => ?_)).mono ?_
 .have f:=X.below h;exact Q7 w.heap.size p _ g b.les b.caps b.leb b.capb f.1.1 f.1.2.1 f.1.2.2
 rintro e g ⟨rfl,j⟩;go_wp2_with fail;go_ret;exact⟨rfl,a.trans (j.mono a.size)⟩
theorem T4(p:Pl)(s:St)(w:World)(f:p.At w)(hs:s.At w):
  Calls prog 37 #[p.val,s.val] w λe r=>e = .returned (.bool (fs p s))/\Below w.heap.size w r:=by
 have X:=nt w p s 25 31;have b:=ix w (.cells #[.slice p.ab p.nb p.cb,.slice p.sa p.ns p.cs] 25) (.cells s.cells 31);have u:=enters_of func79 (by kernel_rfl) rfl;unfold Pl.val St.val;go_enter func37,ntmps37;go_wp2_with fail;obtain⟨W,h⟩:∃W,((w.alloc (.cells #[.slice p.ab p.nb p.cb,.slice p.sa p.ns p.cs] 25)).alloc (.cells s.cells 31))=W:=⟨_,rfl⟩;rw[h] at X b;unfold St.cells at h;rw[h];clear h;refine(D3 w.heap.size p s.si 0 W (hs.si.below b) f.les f.caps X.1.1 X.1.2.2).mono ?_;rintro e n ⟨rfl,a⟩;have g:=X.below a;have c:=b.trans (a.mono b.size);clear X b a;cases k:mh p s.si 0;rotate_left
 .go_wp2_with fail;go_ret;exact⟨by simp[fs,k],c⟩
 have t:=g;obtain⟨-,i,-,-,-,-,-,m,-⟩:=t;go_wp2_with fail;refine(D3 w.heap.size p s.so 0 n (hs.so.below c) f.les f.caps g.1.1 g.1.2.2).mono ?_;rintro e q ⟨rfl,a⟩;have j:=g.below a;have d:=c.trans (a.mono c.size);clear g c a m i;cases l:mh p s.so 0
 .have o:=j;obtain⟨-,i,-,-,-,-,-,-,x⟩:=o;go_wp2_with fail;refine(D3 w.heap.size p s.sf (-1048576) q (hs.sf.below d) f.les f.caps j.1.1 j.1.2.2).mono ?_;rintro e v ⟨rfl,a⟩;go_wp2_with fail;go_ret;exact⟨by simp[fs,k,l],d.trans (a.mono d.size)⟩
 go_wp2_with fail;go_ret;exact⟨by simp[fs,l],d⟩
theorem Q6(F S:Nat)(p:Pl)(s:St)(x:Hd)(w:World)(q:p.At w)(hs:s.os.At w)(X:lx w F S p s):
  Calls prog 74 #[x.val,.pointer (some ⟨S,0,none⟩),.pointer (some ⟨F,0,none⟩)] w λe T=>e = .returned (.bool (jf p s x))/\Below w.heap.size w T:=by
 obtain⟨W,M,a,i⟩:∃W,w.alloc (.cells #[.int .i64 x.o,.int .i64 x.l,.int .i64 x.b,.int .i64 x.n] 61)=W/\Below w.heap.size w W/\Blk W w.heap.size 61 4 (λj=>(#[.int .i64 x.o,.int .i64 x.l,.int .i64 x.b,.int .i64 x.n]:Array Value).getD j default):=⟨_,rfl,(Below.refl w.heap.size w).alloc nlr _,Blk.mk' rfl rfl⟩;have y:Hid (w.alloc (.cells #[.int .i64 x.o,.int .i64 x.l,.int .i64 x.b,.int .i64 x.n] 61)=W):=M;have A:=X.below a;have os:=hs.below a;have G:=os.le;have f:=os.cap;have ac:s.os.n<=maxLen:=Qzx G f;have aa:p.nb<=maxLen:=Qzx q.leb q.capb;have v:=q.capb;have ab:=q.leb;have B:=f;unfold maxLen at B v;have V:=Qqq (i.k 0);have r1:=Qqq (i.k 1);have r2:=Qqq (i.k 2);have U:=Qqq A.2.2.2.1;have r4:=Qqq A.1.2.1;clear M;unfold Hd.val;cases g:inB x.o 0 ((s.os.n:Int)-1)
 .go_enter func74,ntmps74;go_wp2_with fail;rw[y.out];refine Qxq (by kernel_rfl) (by kernel_rfl) ?_
  repeat(go_big_quiet_step((go_at_call 71;exact Xxz ((dm _ _ _ (by assumption)).mono (λ_ _ h=>⟨h.1,h.2▸Below.refl _ _⟩)))))
  refine Qqz ?_;intro _ d;obtain⟨⟨J,u⟩,c⟩:=d;subst c;go_wp2_with fail;go_ret;exact⟨by simp[jf,g],a.trans ((Qxx _ _ _).mono a.size)⟩
 obtain⟨m,r⟩:=Qzz (au g).1;have K:m<s.os.n:=by have:=(au g).2;omega
 obtain⟨b,o,t,hb,-,P,Q⟩:=os.ods m K;have Y:(s.os.z m).ls.n<=maxLen:=Qzx Q.le Q.cap;have H:Hid (jf p s x=(!inB x.l 0 (((s.os.z m).ls.n:Int)-1) || !inB x.b 0 ((p.nb:Int)-1))):=by
  show jf p s x=_;unfold jf;rw[g,r,Int.toNat_natCast]
  rfl
 rw[r] at V g;simp only[t] at U;have r5:=Qqq P;have m1:(0:Int)<=(m:Int):=by omega
 have m2:(m:Int)<(s.os.n:Int):=by omega
 have D:=hid r;clear r t P os A X i
 generalize (s.os.z m).ls=L at *
 cases E:inB x.l 0 ((L.n:Int)-1)
 .go_enter func74,ntmps74;go_wp2_with fail;rw[y.out,D.out];refine Qxq (by kernel_rfl) (by kernel_rfl) ?_
  repeat(go_big_quiet_step((go_at_call 71;exact Xxz ((dm _ _ _ (by assumption)).mono (λ_ _ h=>⟨h.1,h.2▸Below.refl _ _⟩)))))
  refine Qqz ?_;intro _ d;obtain⟨⟨J,u⟩,c⟩:=d;subst c;go_wp2_with fail;go_ret;exact⟨by rw[H.out,E];simp,a.trans ((Qxx _ _ _).mono a.size)⟩
 go_enter func74,ntmps74;go_wp2_with fail;rw[y.out,D.out];refine Qxq (by kernel_rfl) (by kernel_rfl) ?_
 repeat(go_big_quiet_step((go_at_call 71;exact Xxz ((dm _ _ _ (by assumption)).mono (λ_ _ h=>⟨h.1,h.2▸Below.refl _ _⟩)))))
 refine Qqz ?_;intro _ d;obtain⟨⟨J,u⟩,c⟩:=d;subst c;go_wp2_with fail;go_ret;exact⟨by rw[H.out,E];simp,a.trans ((Qxx _ _ _).mono a.size)⟩
theorem Rz(p:Pl)(s:St)(w:World)(u:p.At w)(hs:s.At w):
  Calls prog 35 #[p.val,s.val] w λe v=>e = .returned (.bool (gt p s))/\Below w.heap.size w v:=by
 have X:=nt w p s 25 31;have a:=ix w (.cells #[.slice p.ab p.nb p.cb,.slice p.sa p.ns p.cs] 25) (.cells s.cells 31);have j:=hs.hs.cap;have t:=hs.hs.le;have d:=u.below a;have c:=hs.below a;unfold Pl.val St.val;go_enter func35,ntmps35;go_wp2_with fail;obtain⟨W,g⟩:∃W,((w.alloc (.cells #[.slice p.ab p.nb p.cb,.slice p.sa p.ns p.cs] 25)).alloc (.cells s.cells 31))=W:=⟨_,rfl⟩;rw[g] at X a d c;unfold St.cells at g;rw[g];clear g;refine(vd s.hs W c.hs).mono ?_;rintro e A ⟨rfl,b⟩;have r:=X.below b;have f:=a.trans (b.mono a.size);have q:=d.below b;have k:=c.below b;clear X a b d c;by_cases o:gz s.hs.n s.hs.z=0
 .have x:=r;obtain⟨-,y,-,-,B,-⟩:=x;go_wp2_with fail;refine(adu 74 #[.pointer (some ⟨w.heap.size+1,0,none⟩),.pointer (some ⟨w.heap.size,0,none⟩)] (λi=>jf p s (s.hs.z i)) _ _ _ _ t j s.hs.z k.hs.hds (enters_of func74 (by kernel_rfl) rfl) (λi m hi h => ?_)).mono ?_
  .exact Q6 w.heap.size (w.heap.size+1) p s _ m (q.below h) (k.os.below h) (r.below h)
  rintro e m ⟨rfl,l⟩;go_wp2_with fail;go_ret;exact⟨by simp[gt,o],f.trans (l.mono f.size)⟩
 go_wp2_with fail;go_ret;exact⟨by simp[gt,o],f⟩
theorem Ze(x:Hd)(w:World):
  Calls prog 83 #[x.val] w λe a=>e = .returned (.bool (jy x))/\Below w.heap.size w a:=by
 unfold jy Hd.val;go_enter func83,ntmps83;go_wp2_with fail;go_ret;exact⟨rfl,brf.alloc nlr _⟩
theorem Ik(k:Int)(x:Hd)(kept:Int)(w:World)(m:0<=x.b/\x.b<=200)(j:0<=x.n/\x.n<=200)(h:0<=kept/\kept<=14400):
  Calls prog 85 #[.int .i64 k,x.val,.int .i64 kept] w λe f=>e = .returned (.bool (cp k x kept))/\Below w.heap.size w f:=by
 unfold Hd.val;by_cases c:k=0
 .have a:Hid (cp k x kept=(!(x.b==0) || !(x.n==0) || !(kept==0))):=by show cp k x kept=_;simp only[cp,if_pos c]
  rw[a.out];subst c;clear a;cases g:(x.b==0)
  .go_enter func85,ntmps85;go_wp2_with fail
   all_goals go_ret
   all_goals exact⟨by first|rfl|simp_all,brf.alloc nlr _⟩
  cases i:(x.n==0)
  .go_enter func85,ntmps85;go_wp2_with fail
   all_goals go_ret
   all_goals exact⟨by first|rfl|simp_all,brf.alloc nlr _⟩
  go_enter func85,ntmps85;go_wp2_with fail
  all_goals go_ret
  all_goals exact⟨by first|rfl|simp_all,brf.alloc nlr _⟩
 by_cases d:k=2
 .have a:Hid (cp k x kept=(!(x.b+x.n==x.l) || !(kept==0))):=by show cp k x kept=_;simp only[cp,if_neg c,if_pos d]
  rw[a.out];subst d;clear a c;cases g:(x.b+x.n==x.l)
  .go_enter func85,ntmps85;go_wp2_with fail
   all_goals go_ret
   all_goals exact⟨by first|rfl|simp_all,brf.alloc nlr _⟩
  go_enter func85,ntmps85;go_wp2_with fail
  all_goals go_ret
  all_goals exact⟨by first|rfl|simp_all,brf.alloc nlr _⟩
 have a:Hid (cp k x kept = !(x.b+x.n+kept==x.l)):=by show cp k x kept=_;simp only[cp,if_neg c,if_neg d]
 rw[a.out];clear a;go_enter func85,ntmps85;go_wp2_with fail
 all_goals go_ret
 all_goals exact⟨rfl,brf.alloc nlr _⟩
theorem Y6{k:Nat}(f:cx p s)(hs:s.os.At w)(B:k<s.hs.n):
  ∃(c b b1 e b2 g N C:Nat),(s.hs.z k).o=(c:Int)/\(s.hs.z k).l=(b:Int)/\c<s.os.n/\b<N/\N<=C/\C<=maxLen/\s.os.a=some ⟨b1,e,none⟩/\b1<w.heap.size/\b2<w.heap.size /\
   w.cell? ⟨b1,e+c*2+1,none⟩=some (.slice (some ⟨b2,g,none⟩) N C)/\w.cell? ⟨b2,g+b*4,none⟩=some (.int .i64 (jw s (s.hs.z k))):=by
 obtain⟨⟨A,a1⟩,⟨l0,d⟩,-⟩:=i8 (f.home k B);obtain⟨c,u⟩:=Qzz A;obtain⟨b,r⟩:=Qzz l0;have t:(s.hs.z k).o.toNat=c:=by omega
 have j:(s.hs.z k).l.toNat=b:=by omega
 have y:jw s (s.hs.z k)=((s.os.z c).ls.z b).o:=by unfold jw;rw[t,j]
 rw[t] at a1 d;rw[j] at d;obtain⟨b1,e,x,q,-,v,h⟩:=hs.ods c a1;obtain⟨b2,g,i,m,D,-⟩:=h.hds b d;rw[i] at v;exact⟨c,b,b1,e,b2,g,_,_,u,r,a1,d,h.le,h.cap,x,q,m,v,by rw[y];exact D⟩
theorem Nq{b g:Int}{k:Nat}(c:(s.hs.z k).b=b)(a:jw s (s.hs.z k)=g):ca s b g (k+1)=ca s b g k+(s.hs.z k).n:=by simp only[ca];rw[if_pos ⟨c,a⟩]
theorem Lh{b g:Int}{k:Nat}(h:¬((s.hs.z k).b=b/\jw s (s.hs.z k)=g)):ca s b g (k+1)=ca s b g k:=by simp only[ca];rw[if_neg h,Int.add_zero]
theorem He{b g:Int}{k:Nat}(c:(s.ms.z k).l=b)(a:(s.ms.z k).o=g):bj s b g (k+1)=bj s b g k+(s.ms.z k).n:=by simp only[bj];rw[if_pos ⟨c,a⟩]
theorem Lg{b g:Int}{k:Nat}(h:¬((s.ms.z k).l=b/\(s.ms.z k).o=g)):bj s b g (k+1)=bj s b g k:=by simp only[bj];rw[if_neg h,Int.add_zero]
theorem Pt(p:Pl)(s:St)(bin good:Nat)(w:World)(hs:s.At w)(f:cx p s)(b5:bin<p.nb)(ay:good<p.ns):
  Calls prog 82 #[s.val,.int .i64 bin,.int .i64 good] w λe w'=>e = .returned (.int .i64 (aw s bin good))/\Below w.heap.size w w':=by
 obtain⟨A,az,ab,W⟩:∃A,w.alloc (.cells s.cells 31)=A/\Below w.heap.size w A/\Blk A w.heap.size 31 7 (λj=>s.cells.getD j default):=⟨_,rfl,(Below.refl w.heap.size w).alloc nlr _,Blk.mk' rfl rfl⟩;have x:=hs.below ab;have HC:Hid (∀D,Below A.heap.size A D->s.At D/\D.cell? ⟨w.heap.size,0,none⟩=some (.slice s.on.a s.on.n s.on.c)/\D.cell? ⟨w.heap.size,1,none⟩=some (.slice s.os.a s.os.n s.os.c)/\D.cell? ⟨w.heap.size,2,none⟩=some (.slice s.hs.a s.hs.n s.hs.c)/\D.cell? ⟨w.heap.size,3,none⟩=some (.slice s.ms.a s.ms.n s.ms.c)/\w.heap.size<D.heap.size):=
  λD h=>⟨x.below h,(W.below h).k 0,(W.below h).k 1,(W.below h).k 2,(W.below h).k 3,(W.below h).lt⟩
 have M:=f.sh.n;obtain⟨bo,oo,T,ch,y0,L⟩:=hs.on.rows bin (by omega);have Y:=f.sh.len bin (by omega);have bs:=f.sh.num bin (by omega) good ay;obtain⟨br,cj,a1,ci,y1⟩:=L.ints good (by omega);have bc:=L.le;have ar:=L.cap;have a4:=x.on.le;have ax:=x.on.cap;have cf:=x.hs.le;have av:=x.hs.cap;have b9:=x.ms.le;have au:=x.ms.cap;have bn:=x.os.le;have aj:=x.os.cap;unfold maxLen at ar ax av au aj;rw[a1] at y0;have ck:=f.hs72;have m8:=f.ms8;have HB:Hid (∀k,k<=s.hs.n->0<=ca s bin good k/\ca s bin good k<=200*k):=λk hk=>nw λj hj=>f.holdN j (by omega);have MB:Hid (∀k,k<=s.ms.n->0<=bj s bin good k/\bj s bin good k<=200*k):=λk hk=>jx λj hj=>f.moveN j (by omega);have HW:Hid (w.alloc (.cells #[.slice (some ⟨bo,oo,none⟩) p.nb s.on.c,.slice s.os.a s.os.n s.os.c,.slice s.hs.a s.hs.n s.hs.c,.slice s.ms.a s.ms.n s.ms.c,.slice s.si.a s.si.n s.si.c,.slice s.so.a s.so.n s.so.c,.slice s.sf.a s.sf.n s.sf.c] 31)=A):=by
  show _=A;rw[<-az,<-T,<-M]
  rfl
 have HN:Hid (s.on.n=p.nb/\(s.on.r bin).n=p.ns/\(s.on.r bin).z good+0=(s.on.r bin).z good):=⟨M,Y,Int.add_zero _⟩;have HO:=hid T;rw[Y] at y0 bc;rw[M] at a4;have q0:(0:Int)<=(bin:Int):=by omega
 have q1:(0:Int)<=(good:Int):=by omega
 simp only[St.val,T,M];clear W az L M Y T a1;go_enter func82,ntmps82;go_wp2_with fail;rw[HW.out]
 go_loopw [7,23] (λu i D=>∃k:Nat,k<=s.hs.n/\i = .int .i64 k/\u = .int .i64 ((s.on.r bin).z good-ca s bin good k)/\Below A.heap.size A D) (λ_ i _=>s.hs.n-(intOf i).toNat)
 case atStart=>exact⟨0,Qxz _,rfl,by simp[ca],Below.refl _ _⟩
 obtain⟨k,hk,rfl,rfl,J⟩:=hrel;have m1:=HB.out k hk;obtain⟨G,c0,c1,c2,c3,Q⟩:=HC.out wr J;by_cases am:k<s.hs.n;rotate_left
 .have ah:k=s.hs.n:=by omega
  subst ah
  generalize hHH:ca s bin good s.hs.n=HH at *
  have bl:=hid hHH;clear hHH G;go_wp2_with fail
  go_loopw [7,55] (λu i D=>∃k:Nat,k<=s.ms.n/\i = .int .i64 k/\u = .int .i64 ((s.on.r bin).z good-HH-bj s bin good k)/\Below A.heap.size A D) (λ_ i _=>s.ms.n-(intOf i).toNat)
  case atStart=>exact⟨0,Qxz _,rfl,by simp[bj],J⟩
  clear J c0 c1 c2 c3 Q;obtain⟨k,hk,rfl,rfl,J⟩:=hrel;have m2:=MB.out k hk;by_cases ad:k<s.ms.n;rotate_left
  .have ah:k=s.ms.n:=by omega
   subst ah;go_wp2_with fail;go_ret;exact⟨by rw[<-bl.out];rfl,ab.trans (J.mono ab.size)⟩
  obtain⟨G,c0,c1,c2,c3,Q⟩:=HC.out wr J;obtain⟨b,q,a2,hb,z0,z1,z2,z3⟩:=G.ms.hds k ad;have m3:=f.moveN k ad;have B:Hid (((s.ms.z k).l=bin/\(s.ms.z k).o=good->bj s bin good (k+1)=bj s bin good k+(s.ms.z k).n)/\(¬((s.ms.z k).l=bin/\(s.ms.z k).o=good)->bj s bin good (k+1)=bj s bin good k)):=⟨λh=>He h.1 h.2,Lg⟩;have q4:(0:Int)<=(k:Int):=by omega
  have F:=λo=>J.alloc (Qzx J.size nlr) o;have ac:=hid F;rw[a2];clear a2 c0 c1 c2 c3 G F
  generalize bj s bin good k=U at *
  generalize (s.ms.z k).l=BB at *
  generalize (s.ms.z k).n=NN at *
  generalize (s.ms.z k).o=GD at *
  cases h1:(BB==(bin:Int))
  .have v:=B.out.2 (by simp at h1;omega);have E:=hid v;clear v B;go_wp2_with fail;go_roundw
   case rel=>exact⟨k+1,by omega,by go_num,by rw[E.out],ac.out _⟩
   case measure=>simp[intOf];omega
  cases h2:(GD==(good:Int))
  .have v:=B.out.2 (by simp at h2;omega);have E:=hid v;clear v B;go_wp2_with fail;go_roundw
   case rel=>exact⟨k+1,by omega,by go_num,by rw[E.out],ac.out _⟩
   case measure=>simp[intOf];omega
  have v:=B.out.1 ⟨by simpa using h1,by simpa using h2⟩;have E:=hid v;clear v B;go_wp2_with fail;go_roundw
  case rel=>exact⟨k+1,by omega,by go_num,by rw[E.out,Int.sub_sub _ U],ac.out _⟩
  case measure=>simp[intOf];omega
 obtain⟨b,q,ai,hb,z0,z1,z2,z3⟩:=G.hs.hds k am;have m2:=f.holdN k am;obtain⟨mo,ml,b1,o1,b2,o2,N,C,af,ap,g1,g2,g3,g4,S,g5,g6,g7,g8⟩:=Y6 f G.os am;have HG:=qa4 ai S af ap;obtain⟨m,an,y,K⟩:∃m,wr.alloc (.cells #[.int .i64 mo,.int .i64 ml,.int .i64 (s.hs.z k).b,.int .i64 (s.hs.z k).n] 61)=m/\Below A.heap.size A m/\Blk m wr.heap.size 61 4 (λj=>(#[.int .i64 mo,.int .i64 ml,.int .i64 (s.hs.z k).b,.int .i64 (s.hs.z k).n]:Array Value).getD j default):=⟨_,rfl,J.alloc J.size _,Blk.mk' rfl rfl⟩;have F:Below wr.heap.size wr m:=by rw[<-an];exact brf.alloc nlr _
 have r0:=Qqq (K.k 0);have r1:=Qqq (K.k 1);have r2:=Qqq (K.k 2);have V:=Qqq (K.k 3);rw[S] at c1;rw[af] at z0;rw[ap] at z1;have r4:∀d os,(grow (redrawn m d) os).cell? ⟨w.heap.size,1,none⟩=some (.slice (some ⟨b1,o1,none⟩) s.os.n s.os.c):=λd os=>Qqq ((F.cell (p:=⟨w.heap.size,1,none⟩) Q).trans c1) d os;have r5:∀d os,(grow (redrawn m d) os).cell? ⟨b1,o1+mo*2+1,none⟩=some (.slice (some ⟨b2,o2,none⟩) N C):=λd os=>Qqq ((F.cell (p:=⟨b1,o1+mo*2+1,none⟩) g5).trans g7) d os;have r6:∀d os,(grow (redrawn m d) os).cell? ⟨b2,o2+ml*4,none⟩=some (.int .i64 (jw s (s.hs.z k))):=λd os=>Qqq ((F.cell (p:=⟨b2,o2+ml*4,none⟩) g6).trans g8) d os;have X:=hid an;have q2:(0:Int)<=(mo:Int):=by omega
 have q3:(0:Int)<=(ml:Int):=by omega
 have q4:(0:Int)<=(k:Int):=by omega
 have B:Hid (((s.hs.z k).b=bin/\jw s (s.hs.z k)=good->ca s bin good (k+1)=ca s bin good k+(s.hs.z k).n)/\(¬((s.hs.z k).b=bin/\jw s (s.hs.z k)=good)->ca s bin good (k+1)=ca s bin good k)):=⟨λh=>Nq h.1 h.2,Lh⟩;rw[ai];unfold maxLen at g4;clear af ap S ai an c0 c1 c2 c3 G F
 generalize jw s (s.hs.z k)=GD at *
 generalize ca s bin good k=U at *
 generalize (s.hs.z k).b=BB at *
 generalize (s.hs.z k).n=NN at *
 cases h1:(BB==(bin:Int))
 .have v:=B.out.2 (by simp at h1;omega);have E:=hid v;clear v B;go_wp2_with fail;rw[X.out];refine Qxq (by kernel_rfl) (by kernel_rfl) ?_
  repeat(go_big_quiet_step(fail))
  refine Qqz ?_;intro _ P;obtain⟨⟨t,g⟩,H⟩:=P;subst H;have hC:=y.trans ((Qxx m t g).mono y.size);have a0:=V t g;have a3:wr.heap.size<(grow (redrawn m t) g).heap.size:=Xzx K.lt (Qxx m t g).size;clear r0 r1 r2 V r4 r5 r6 K y X
  generalize grow (redrawn m t) g=wz at *
  go_wp2_with fail;go_roundw
  case rel=>exact⟨k+1,by omega,by go_num,by rw[E.out],hC⟩
  case measure=>simp[intOf];omega
 cases h2:(GD==(good:Int));rotate_left
 .have v:=B.out.1 ⟨by simpa using h1,by simpa using h2⟩;have E:=hid v;clear v B;go_wp2_with fail;rw[X.out];refine Qxq (by kernel_rfl) (by kernel_rfl) ?_
  repeat(go_big_quiet_step(fail))
  refine Qqz ?_;intro _ P;obtain⟨⟨t,g⟩,H⟩:=P;subst H;have hC:=y.trans ((Qxx m t g).mono y.size);have a0:=V t g;have a3:wr.heap.size<(grow (redrawn m t) g).heap.size:=Xzx K.lt (Qxx m t g).size;clear r0 r1 r2 V r4 r5 r6 K y X
  generalize grow (redrawn m t) g=wz at *
  go_wp2_with fail;go_roundw
  case rel=>exact⟨k+1,by omega,by go_num,by rw[E.out,Int.sub_sub],hC⟩
  case measure=>simp[intOf];omega
 have v:=B.out.2 (by simp at h2;omega);have E:=hid v;clear v B;go_wp2_with fail;rw[X.out];refine Qxq (by kernel_rfl) (by kernel_rfl) ?_
 repeat(go_big_quiet_step(fail))
 refine Qqz ?_;intro _ P;obtain⟨⟨t,g⟩,H⟩:=P;subst H;have hC:=y.trans ((Qxx m t g).mono y.size);have a0:=V t g;have a3:wr.heap.size<(grow (redrawn m t) g).heap.size:=Xzx K.lt (Qxx m t g).size;clear r0 r1 r2 V r4 r5 r6 K y X
 generalize grow (redrawn m t) g=wz at *
 go_wp2_with fail;go_roundw
 case rel=>exact⟨k+1,by omega,by go_num,by rw[E.out],hC⟩
 case measure=>simp[intOf];omega
theorem I4(p:Pl)(s:St)(bin good:Nat)(w:World)(hs:s.At w)(f:cx p s):
  Calls prog 113 #[s.val,.int .i64 bin,.int .i64 good] w λe w'=>e = .returned (.int .i64 (ca s bin good s.hs.n+bj s bin good s.ms.n))/\Below w.heap.size w w':=by
 obtain⟨y,an,V,Q⟩:∃y,w.alloc (.cells s.cells 31)=y/\Below w.heap.size w y/\Blk y w.heap.size 31 7 (λj=>s.cells.getD j default):=⟨_,rfl,(Below.refl w.heap.size w).alloc nlr _,Blk.mk' rfl rfl⟩;have D:=hs.below V;have bn:w.heap.size<y.heap.size:=Q.lt;have HC:Hid (∀E,Below y.heap.size y E->s.At E/\E.cell? ⟨w.heap.size,1,none⟩=some (.slice s.os.a s.os.n s.os.c)/\E.cell? ⟨w.heap.size,2,none⟩=some (.slice s.hs.a s.hs.n s.hs.c)/\E.cell? ⟨w.heap.size,3,none⟩=some (.slice s.ms.a s.ms.n s.ms.c)/\w.heap.size<E.heap.size):=
  λE h=>⟨D.below h,(Q.below h).k 1,(Q.below h).k 2,(Q.below h).k 3,(Q.below h).lt⟩
 have bs:=D.hs.le;have am:=D.hs.cap;have bo:=D.ms.le;have al:=D.ms.cap;have a8:=D.os.le;have ae:=D.os.cap;unfold maxLen at am al ae;have bu:=f.hs72;have m8:=f.ms8;have HB:Hid (∀k,k<=s.hs.n->0<=ca s bin good k/\ca s bin good k<=200*k):=λk Y=>nw λj hj=>f.holdN j (by omega);have MB:Hid (∀k,k<=s.ms.n->0<=bj s bin good k/\bj s bin good k<=200*k):=λk Y=>jx λj hj=>f.moveN j (by omega);have HW:Hid (w.alloc (.cells #[.slice s.on.a s.on.n s.on.c,.slice s.os.a s.os.n s.os.c,.slice s.hs.a s.hs.n s.hs.c,.slice s.ms.a s.ms.n s.ms.c,.slice s.si.a s.si.n s.si.c,.slice s.so.a s.so.n s.so.c,.slice s.sf.a s.sf.n s.sf.c] 31)=y):=an;simp only[St.val];clear Q an;go_enter func113,ntmps113;go_wp2_with fail;rw[HW.out]
 go_loopw [7,8] (λu i E=>∃k:Nat,k<=s.hs.n/\i = .int .i64 k/\u = .int .i64 (ca s bin good k)/\Below y.heap.size y E) (λ_ i _=>s.hs.n-(intOf i).toNat)
 case atStart=>exact⟨0,Qxz _,rfl,by simp[ca],Below.refl _ _⟩
 obtain⟨k,Y,rfl,rfl,H⟩:=hrel;have m1:=HB.out k Y;obtain⟨x,c1,c2,c3,K⟩:=HC.out wr H;by_cases ah:k<s.hs.n;rotate_left
 .have ac:k=s.hs.n:=by omega
  subst ac
  generalize hHH:ca s bin good s.hs.n=HH at *
  have a6:=hid hHH;clear hHH x;go_wp2_with fail
  go_loopw [7,10] (λu i E=>∃k:Nat,k<=s.ms.n/\i = .int .i64 k/\u = .int .i64 (HH+bj s bin good k)/\Below y.heap.size y E) (λ_ i _=>s.ms.n-(intOf i).toNat)
  case atStart=>exact⟨0,Qxz _,rfl,by simp[bj],H⟩
  clear H c1 c2 c3 K;obtain⟨k,Y,rfl,rfl,H⟩:=hrel;have m2:=MB.out k Y;by_cases X:k<s.ms.n;rotate_left
  .have ac:k=s.ms.n:=by omega
   subst ac;obtain⟨x,c1,c2,c3,K⟩:=HC.out wr H;clear x c1 c2;go_wp2_with fail;go_ret;exact⟨by rw[<-a6.out];rfl,V.trans (H.mono V.size)⟩
  obtain⟨x,c1,c2,c3,K⟩:=HC.out wr H;obtain⟨b,q,ap,hb,z0,z1,z2,z3⟩:=x.ms.hds k X;have m3:=f.moveN k X;have A:Hid (((s.ms.z k).l=bin/\(s.ms.z k).o=good->bj s bin good (k+1)=bj s bin good k+(s.ms.z k).n)/\(¬((s.ms.z k).l=bin/\(s.ms.z k).o=good)->bj s bin good (k+1)=bj s bin good k)):=⟨λh=>He h.1 h.2,Lg⟩;have q4:(0:Int)<=(k:Int):=by omega
  have B:=H;have W:=hid B;rw[ap] at c3;clear ap c1 c2 x B
  generalize bj s bin good k=U at *
  generalize (s.ms.z k).l=BB at *
  generalize (s.ms.z k).n=NN at *
  generalize (s.ms.z k).o=GD at *
  cases h1:(BB==(bin:Int))
  .have t:=A.out.2 (by simp at h1;omega);have G:=hid t;clear t A;go_wp2_with fail;go_roundw
   case rel=>exact⟨k+1,by omega,by go_num,by rw[G.out],W.out⟩
   case measure=>simp[intOf];omega
  cases h2:(GD==(good:Int))
  .have t:=A.out.2 (by simp at h2;omega);have G:=hid t;clear t A;go_wp2_with fail;go_roundw
   case rel=>exact⟨k+1,by omega,by go_num,by rw[G.out],W.out⟩
   case measure=>simp[intOf];omega
  have t:=A.out.1 ⟨by simpa using h1,by simpa using h2⟩;have G:=hid t;clear t A;go_wp2_with fail;go_roundw
  case rel=>exact⟨k+1,by omega,by go_num,by rw[G.out,Int.add_assoc],W.out⟩
  case measure=>simp[intOf];omega
 obtain⟨b,q,ad,hb,z0,z1,z2,z3⟩:=x.hs.hds k ah;have m2:=f.holdN k ah;obtain⟨mo,T,b1,o1,b2,o2,N,C,aa,ak,g1,g2,g3,g4,M,g5,g6,g7,g8⟩:=Y6 f x.os ah;have HG:=qa4 ad M aa ak;obtain⟨m,ai,v,J⟩:∃m,wr.alloc (.cells #[.int .i64 mo,.int .i64 T,.int .i64 (s.hs.z k).b,.int .i64 (s.hs.z k).n] 61)=m/\Below y.heap.size y m/\Blk m wr.heap.size 61 4 (λj=>(#[.int .i64 mo,.int .i64 T,.int .i64 (s.hs.z k).b,.int .i64 (s.hs.z k).n]:Array Value).getD j default):=⟨_,rfl,H.alloc H.size _,Blk.mk' rfl rfl⟩;have B:Below wr.heap.size wr m:=by rw[<-ai];exact brf.alloc nlr _
 have r0:=Qqq (J.k 0);have r1:=Qqq (J.k 1);have r2:=Qqq (J.k 2);have P:=Qqq (J.k 3);rw[M] at c1;rw[aa] at z0;rw[ak] at z1;have r4:∀d os,(grow (redrawn m d) os).cell? ⟨w.heap.size,1,none⟩=some (.slice (some ⟨b1,o1,none⟩) s.os.n s.os.c):=λd os=>Qqq ((B.cell (p:=⟨w.heap.size,1,none⟩) K).trans c1) d os;have r5:∀d os,(grow (redrawn m d) os).cell? ⟨b1,o1+mo*2+1,none⟩=some (.slice (some ⟨b2,o2,none⟩) N C):=λd os=>Qqq ((B.cell (p:=⟨b1,o1+mo*2+1,none⟩) g5).trans g7) d os;have r6:∀d os,(grow (redrawn m d) os).cell? ⟨b2,o2+T*4,none⟩=some (.int .i64 (jw s (s.hs.z k))):=λd os=>Qqq ((B.cell (p:=⟨b2,o2+T*4,none⟩) g6).trans g8) d os;have S:=hid ai;have q2:(0:Int)<=(mo:Int):=by omega
 have q3:(0:Int)<=(T:Int):=by omega
 have q4:(0:Int)<=(k:Int):=by omega
 have A:Hid (((s.hs.z k).b=bin/\jw s (s.hs.z k)=good->ca s bin good (k+1)=ca s bin good k+(s.hs.z k).n)/\(¬((s.hs.z k).b=bin/\jw s (s.hs.z k)=good)->ca s bin good (k+1)=ca s bin good k)):=⟨λh=>Nq h.1 h.2,Lh⟩;rw[ad] at c2;unfold maxLen at g4;clear aa ak M ad ai c1 c3 x B
 generalize jw s (s.hs.z k)=GD at *
 generalize ca s bin good k=U at *
 generalize (s.hs.z k).b=BB at *
 generalize (s.hs.z k).n=NN at *
 cases h1:(BB==(bin:Int))
 .have t:=A.out.2 (by simp at h1;omega);have G:=hid t;clear t A;go_wp2_with fail;rw[S.out];refine Qxq (by kernel_rfl) (by kernel_rfl) ?_
  repeat(go_big_quiet_step(fail))
  refine Qqz ?_;intro _ L;obtain⟨⟨r,g⟩,F⟩:=L;subst F;have hC:=v.trans ((Qxx m r g).mono v.size);have ao:=P r g;have aq:wr.heap.size<(grow (redrawn m r) g).heap.size:=Xzx J.lt (Qxx m r g).size;clear r0 r1 r2 P r4 r5 r6 J v S
  generalize grow (redrawn m r) g=wz at *
  go_wp2_with fail;go_roundw
  case rel=>exact⟨k+1,by omega,by go_num,by rw[G.out],hC⟩
  case measure=>simp[intOf];omega
 cases h2:(GD==(good:Int));rotate_left
 .have t:=A.out.1 ⟨by simpa using h1,by simpa using h2⟩;have G:=hid t;clear t A;go_wp2_with fail;rw[S.out];refine Qxq (by kernel_rfl) (by kernel_rfl) ?_
  repeat(go_big_quiet_step(fail))
  refine Qqz ?_;intro _ L;obtain⟨⟨r,g⟩,F⟩:=L;subst F;have hC:=v.trans ((Qxx m r g).mono v.size);have ao:=P r g;have aq:wr.heap.size<(grow (redrawn m r) g).heap.size:=Xzx J.lt (Qxx m r g).size;clear r0 r1 r2 P r4 r5 r6 J v S
  generalize grow (redrawn m r) g=wz at *
  go_wp2_with fail;go_roundw
  case rel=>exact⟨k+1,by omega,by go_num,by rw[G.out],hC⟩
  case measure=>simp[intOf];omega
 have t:=A.out.2 (by simp at h2;omega);have G:=hid t;clear t A;go_wp2_with fail;rw[S.out];refine Qxq (by kernel_rfl) (by kernel_rfl) ?_
 repeat(go_big_quiet_step(fail))
 refine Qqz ?_;intro _ L;obtain⟨⟨r,g⟩,F⟩:=L;subst F;have hC:=v.trans ((Qxx m r g).mono v.size);have ao:=P r g;have aq:wr.heap.size<(grow (redrawn m r) g).heap.size:=Xzx J.lt (Qxx m r g).size;clear r0 r1 r2 P r4 r5 r6 J v S
 generalize grow (redrawn m r) g=wz at *
 go_wp2_with fail;go_roundw
 case rel=>exact⟨k+1,by omega,by go_num,by rw[G.out],hC⟩
 case measure=>simp[intOf];omega
theorem adn{s:Sh}(a:fa p s=0)(b:g<p.ns):H6 p s (g:Int)=0/\Mk p s (g:Int)=cv (λi=>(s.r i).z g) s.n:=by
 have h:H6 p s (g:Int)=0:=by
  unfold H6;rw[a,bw ⟨by omega,by omega⟩]
  rfl
 exact⟨h,by simp[Mk,h]⟩
theorem qu:iy p s g=(!(cv (λi=>(s.on.r i).z g) s.on.n==s.si.z g-s.so.z g+s.sf.z g)||ax p.nb (λb=>decide (aw s b g<0))):=rfl
theorem Pr(p:Pl)(s:St)(w:World)(Y:p.At w)(hs:s.At w)(f:cx p s):
  Calls prog 38 #[p.val,s.val] w λe w'=>e = .returned (.bool (lq p s))/\Below w.heap.size w w':=by
 obtain⟨D,hW,k,X0⟩:=Jr w p s;have L:Hid (∀t,Below D.heap.size D t->lx t w.heap.size (w.heap.size+1) p s/\p.At t/\s.At t):=λt h=>⟨X0.below h,(Y.below k).below h,(hs.below k).below h⟩;have HW:=hid hW;have ns3:=f.sh.pl.ns3;have nb6:=f.sh.pl.nb6;have d:=hid f;have az:Hid (∀g,g<p.ns->0<=cv (λi=>(s.on.r i).z g) s.on.n/\cv (λi=>(s.on.r i).z g) s.on.n<=1200):=λg hg=>by
  have:=El (z:=λi=>(s.on.r i).z g) (n:=s.on.n) (λj q=>f.sh.num j q g hg) s.on.n nlr;have:=f.sh.n;omega
 clear hW X0 f;unfold Pl.val St.val;go_enter func38,ntmps38;go_wp2_with fail;rw[HW.out]
 go_loopw [12] (λi t=>∃g:Nat,g<=p.ns/\i = .int .i64 g/\(∀j,j<g->iy p s j=false)/\Below D.heap.size D t) (λi _=>p.ns-(intOf i).toNat)
 case atStart=>exact⟨0,Qxz _,rfl,λj q=>absurd q (Qzq _),Below.refl _ _⟩
 obtain⟨g,hg,rfl,u,m⟩:=hrel;have HN:=hid u;clear u;by_cases c:g<p.ns;rotate_left
 .go_wp2_with fail;go_ret;exact⟨by rw[lq,cu λj q=>HN.out j (by omega)];rfl,k.trans (m.mono k.size)⟩
 obtain⟨X,l,a⟩:=L.out wr m;obtain⟨⟨H,d0,d1⟩,o,F,-⟩:=X;obtain⟨T,Q⟩:=adn d.out.sh0 c;go_wp2_with fail;refine(ace p s.on g wr l a.on).mono ?_;rintro e w1 ⟨rfl,U⟩;rw[T,Q];clear T Q H o d0 d1 F l a;have x:=m.trans (U.mono m.size);clear U;obtain⟨X,l,a⟩:=L.out w1 x;obtain⟨-,o,-,-,-,-,e4,e5,e6⟩:=X;obtain⟨b1,o1,a1,g1,y1⟩:=a.si.ints g (by rw[d.out.sin];exact c);obtain⟨b2,o2,a2,g2,y2⟩:=a.so.ints g (by rw[d.out.son];exact c);obtain⟨b3,o3,a3,g3,y3⟩:=a.sf.ints g (by rw[d.out.sfn];exact c);have u1:=d.out.sib g c;have u2:=d.out.sob g c;have u3:=d.out.sfb g c;have u4:=az.out g c;rw[a1,d.out.sin] at e4;rw[a2,d.out.son] at e5;rw[a3,d.out.sfn] at e6;have v1:=a.si.le;have v2:=a.so.le;have v3:=a.sf.le;have v4:=a.si.cap;have v5:=a.so.cap;have v6:=a.sf.cap;rw[d.out.sin] at v1;rw[d.out.son] at v2;rw[d.out.sfn] at v3;unfold maxLen at v4 v5 v6;have r1:=Qqq e4;have r2:=Qqq e5;have r3:=Qqq e6;have r4:=Qqq y1;have r5:=Qqq y2;have r6:=Qqq y3;have q1:(0:Int)<=(g:Int):=by omega
 have P:Hid (iy p s g=(!(cv (λi=>(s.on.r i).z g) s.on.n==s.si.z g-s.so.z g+s.sf.z g)||ax p.nb (λb=>decide (aw s b g<0)))):=qu;clear e4 e5 e6 y1 y2 y3 a1 a2 a3 l a m
 generalize cv (λi=>(s.on.r i).z g) s.on.n=A at *
 generalize s.si.z g=I1 at *
 generalize s.so.z g=I2 at *
 generalize s.sf.z g=I3 at *
 go_wp2_with fail;refine Qxq (by kernel_rfl) (by kernel_rfl) ?_
 repeat(go_big_quiet_step(fail))
 refine Qqz ?_;intro _ al;obtain⟨⟨dq,V⟩,aj⟩:=al;subst aj;have K:=x.trans ((Qxx w1 dq V).mono x.size);clear r1 r2 r3 r4 r5 r6 x
 generalize grow (redrawn w1 dq) V=wz at *
 cases B:(A==I1-I2+I3)
 .have M:Hid (iy p s g=true):=by show iy p s g=true;rw[P.out,B];rfl
  have v:(A !=I1-I2+I3)=true:=by simp[bne,B]
  rw[v];clear B v P;go_wp2_with fail;go_ret;exact⟨by rw[lq,dv c M.out];rfl,k.trans (K.mono k.size)⟩
 have v:(A !=I1-I2+I3)=false:=by simp[bne,B]
 have M:Hid (iy p s g=ax p.nb (λb=>decide (aw s b g<0))):=by show iy p s g=_;rw[P.out,B];rfl
 rw[v];clear B v P;obtain⟨X,l,a⟩:=L.out wz K;obtain⟨⟨H,d0,d1⟩,o,F,c1,c2,c3,c4,c5,c6⟩:=X;clear F c1 c2 c3 c4 c5 c6 d1 l a;have bl:=Y.leb;have aq:=Y.capb;unfold maxLen at aq;go_wp2_with fail
 go_loopw [45] (λi t=>∃b:Nat,b<=p.nb/\i = .int .i64 b/\(∀j,j<b->decide (aw s j g<0)=false)/\Below D.heap.size D t) (λi _=>p.nb-(intOf i).toNat)
 case atStart=>exact⟨0,Qxz _,rfl,λj q=>absurd q (Qzq _),K⟩
 clear K H o d0;obtain⟨b,hb,rfl,u,m⟩:=hrel;have HM:=hid u;clear u;by_cases W:b<p.nb;rotate_left
 .have G:Hid (iy p s g=false):=by show iy p s g=false;rw[M.out];exact cu λj q=>HM.out j (by omega)
  go_wp2_with fail;go_roundw
  case measure=>simp[intOf];omega
  refine⟨g+1,by omega,by go_num,?_,m⟩;intro j q;by_cases J:j=g
  .rw[J];exact G.out
  exact HN.out j (by omega)
 obtain⟨X,l,a⟩:=L.out wr m;obtain⟨-,o,F,c1,c2,c3,c4,c5,c6⟩:=X;go_wp2_with fail;refine(Pt p s b g wr a d.out W c).mono ?_;rintro e w2 ⟨rfl,S⟩;clear o F c1 c2 c3 c4 c5 c6 l a;have x:=m.trans (S.mono m.size);clear S;cases y:decide (aw s b g<0)
 .have G:=hid y;have E:¬aw s b g<0:=of_decide_eq_false y
  generalize aw s b g=AV at E ⊢
  clear y;go_wp2_with fail;go_roundw
  case measure=>simp[intOf];omega
  refine⟨b+1,by omega,by go_num,?_,x⟩;intro j q;by_cases J:j=b
  .rw[J];exact G.out
  exact HM.out j (by omega)
 have G:Hid (iy p s g=true):=by show iy p s g=true;rw[M.out];exact dv W y
 have E:aw s b g<0:=of_decide_eq_true y
 generalize aw s b g=AV at E ⊢
 clear y;go_wp2_with fail;go_ret;exact⟨by rw[lq,dv c G.out];rfl,k.trans (x.mono k.size)⟩
theorem U6{s:Hs}{o l:Int}(h:ax s.n (db s.z)=false):(if gz s.n s.z=0 then keptS s.z o l s.n else 0)=keptS s.z o l s.n/\gz s.n s.z=0:=by
 have:gz s.n s.z=0:=by simp[gz,h]
 exact⟨if_pos this,this⟩
theorem Il:ch s i=(((s.os.z i).k==1 && !ax (s.os.z i).ls.n (λj=>jy ((s.os.z i).ls.z j)))||ax (s.os.z i).ls.n (λj=>cp (s.os.z i).k ((s.os.z i).ls.z j) (keptS s.hs.z i j s.hs.n))):=rfl
theorem Om(p:Pl)(s:St)(w:World)(hs:s.At w)(f:cx p s):
  Calls prog 39 #[s.val] w λe w'=>e = .returned (.bool (jn s))/\Below w.heap.size w w':=by
 obtain⟨x,bd,y,hX⟩:∃x,w.alloc (.cells s.cells 31)=x/\Below w.heap.size w x/\Blk x w.heap.size 31 7 (λj=>s.cells.getD j default):=⟨_,rfl,(Below.refl w.heap.size w).alloc nlr _,Blk.mk' rfl rfl⟩;have bc:=hs.below y;have HC:Hid (∀m,Below x.heap.size x m->s.At m/\m.cell? ⟨w.heap.size,2,none⟩=some (.slice s.hs.a s.hs.n s.hs.c)/\w.heap.size<m.heap.size):=
  λm h=>⟨bc.below h,(hX.below h).k 2,(hX.below h).lt⟩
 have HW:Hid (w.alloc (.cells #[.slice s.on.a s.on.n s.on.c,.slice s.os.a s.os.n s.os.c,.slice s.hs.a s.hs.n s.hs.c,.slice s.ms.a s.ms.n s.ms.c,.slice s.si.a s.si.n s.si.c,.slice s.so.a s.so.n s.so.c,.slice s.sf.a s.sf.n s.sf.c] 31)=x):=bd;have os4:=f.os4;have b9:=hs.os.le;have a9:=hs.os.cap;have cg:=f.hs72;have HF:=hid f;unfold maxLen at a9;clear bd hX bc f;unfold St.val;go_enter func39,ntmps39;go_wp2_with fail;rw[HW.out]
 go_loopw [12] (λi m=>∃k:Nat,k<=s.os.n/\i = .int .i64 k/\(∀j,j<k->ch s j=false)/\Below x.heap.size x m) (λi _=>s.os.n-(intOf i).toNat)
 case atStart=>exact⟨0,Qxz _,rfl,λj X=>absurd X (Qzq _),Below.refl _ _⟩
 obtain⟨i,hi,rfl,G,hB⟩:=hrel;have HN:=hid G;clear G;by_cases Y:i<s.os.n;rotate_left
 .go_wp2_with fail;go_ret;exact⟨by rw[jn,cu λj X=>HN.out j (by omega)];rfl,y.trans (hB.mono y.size)⟩
 obtain⟨F,c2,aw⟩:=HC.out wr hB;obtain⟨b,o,be,hb,z0,z1,hl⟩:=F.os.ods i Y;have q1:(0:Int)<=(i:Int):=by omega
 have HE:Hid (ch s i=(((s.os.z i).k==1 && !ax (s.os.z i).ls.n (λj=>jy ((s.os.z i).ls.z j)))||ax (s.os.z i).ls.n (λj=>cp (s.os.z i).k ((s.os.z i).ls.z j) (keptS s.hs.z i j s.hs.n)))):=Il;have HL:Hid (∀j,j<(s.os.z i).ls.n->(0<=((s.os.z i).ls.z j).b/\((s.os.z i).ls.z j).b<=200)/\(0<=((s.os.z i).ls.z j).n/\((s.os.z i).ls.z j).n<=200)/\0<=keptS s.hs.z i j s.hs.n/\keptS s.hs.z i j s.hs.n<=14400):=λj X=>by
  have a:=er (HF.out.line i Y j X);have c:=tm (z:=s.hs.z) (i:Int) (j:Int) s.hs.n HF.out.holdN;omega
 have n3:=(HF.out.lns i Y).2;have HB:=hid hb;rw[be];clear be F c2
 generalize (s.os.z i).k=u at *
 generalize (s.os.z i).ls=d at *
 obtain⟨W1,a2,af,hY⟩:∃W1,wr.alloc (.cells #[.int .i64 u,.slice d.a d.n d.c] 57)=W1/\Below x.heap.size x W1/\Blk W1 wr.heap.size 57 2 (λj=>(#[.int .i64 u,.slice d.a d.n d.c]:Array Value).getD j default):=⟨_,rfl,hB.alloc hB.size _,Blk.mk' rfl rfl⟩;have HV:=hid a2;have T:d.At W1:=by rw[<-a2];exact hl.below (brf.alloc nlr _)
 clear a2;cases h1:(u==1)
 .have ae:Hid (ch s i=ax d.n (λj=>cp u (d.z j) (keptS s.hs.z i j s.hs.n))):=by show ch s i=_;rw[HE.out,h1];rfl
  clear HE;go_wp2_with fail;rw[HV.out];have ag:=af;have ad:=T;have D:=hY;obtain⟨M,g⟩:∃M,wr.heap.size=M:=⟨_,rfl⟩;rw[g] at D ⊢;have HD:Hid (∀m,Below W1.heap.size W1 m->d.At m/\m.cell? ⟨M,0,none⟩=some (.int .i64 u)/\M<m.heap.size/\Below x.heap.size x m):=λm h=>⟨ad.below h,(D.below h).k 0,(D.below h).lt,ag.trans (h.mono ag.size)⟩;clear ad D hl hB aw z0 z1 g af T hY HV HB hb
  go_loopw [29] (λi0 m=>∃k:Nat,k<=d.n/\i0 = .int .i64 k/\(∀j,j<k->cp u (d.z j) (keptS s.hs.z i j s.hs.n)=false)/\Below W1.heap.size W1 m) (λi0 _=>d.n-(intOf i0).toNat)
  case atStart=>exact⟨0,Qxz _,rfl,λj X=>absurd X (Qzq _),Below.refl _ _⟩
  obtain⟨j,X,rfl,G,v⟩:=hrel;have HM:=hid G;clear G;by_cases J:j<d.n;rotate_left
  .have HA:Hid (ch s i=false):=by show ch s i=false;rw[ae.out];exact cu λq ai=>HM.out q (by omega)
   have r:=(HD.out wr v).2.2.2;go_wp2_with fail;go_roundw
   case measure=>simp[intOf];omega
   refine⟨i+1,by omega,by go_num,?_,r⟩;intro q ai;by_cases L:q=i
   .rw[L];exact HA.out
   exact HN.out q (by omega)
  obtain⟨ak,d0,Q,r⟩:=HD.out wr v;obtain⟨F,c2,aw⟩:=HC.out wr r;obtain⟨b',o',ac,b2,y0,y1,y2,y3⟩:=ak.hds j J;have q2:(0:Int)<=(j:Int):=by omega
  obtain⟨k1,k2,k3⟩:=HL.out j J;have HT:Hid (cp u (d.z j) (keptS s.hs.z i j s.hs.n)=true->ch s i=true):=λh=>by rw[ae.out];exact dv J h
  have HU:Hid (cp u (d.z j) (keptS s.hs.z i j s.hs.n)=false->∀q,q<j+1->cp u (d.z q) (keptS s.hs.z i q s.hs.n)=false):=λh q ai=>by
   by_cases L:q=j
   .rw[L];exact h
   exact HM.out q (by omega)
  have aj:=U6 (s:=s.hs) (o:=i) (l:=j) HF.out.hold;have B:=(Below.refl wr.heap.size wr).alloc nlr (.cells #[.int .i64 (d.z j).o,.int .i64 (d.z j).l,.int .i64 (d.z j).b,.int .i64 (d.z j).n] 59);have ah:=Blk.new wr #[.int .i64 (d.z j).o,.int .i64 (d.z j).l,.int .i64 (d.z j).b,.int .i64 (d.z j).n] 59;have K:=hid aj;rw[ac];clear ac ak HM aj
  generalize d.z j=E at *
  go_wp2_with fail;refine(Rn s.hs i j _ (F.hs.below B)).mono ?_;rintro e U ⟨rfl,H⟩;rw[K.out.1,K.out.2]
  generalize keptS s.hs.z i j s.hs.n=KP at *
  have g:=B.trans (H.mono B.size);have t:=ah.below H;have d0:=(g.cell (p:=⟨M,0,none⟩) Q).trans d0;have Q:=Xzx Q g.size;have t0:U.cell? ⟨wr.heap.size,0,none⟩=some (.int .i64 E.o):=t.cell (j:=0) (by simp);have t1:U.cell? ⟨wr.heap.size,1,none⟩=some (.int .i64 E.l):=t.cell (j:=1) (by simp);have t2:U.cell? ⟨wr.heap.size,2,none⟩=some (.int .i64 E.b):=t.cell (j:=2) (by simp);have t3:U.cell? ⟨wr.heap.size,3,none⟩=some (.int .i64 E.n):=t.cell (j:=3) (by simp);have bi:=t.lt;have P:=v.trans (g.mono v.size);have W:=r.trans (g.mono r.size);clear H ah B t g F c2 y0 y1 y2 y3 v r K;go_wp2_with fail;refine(Ik u E KP U k1 k2 k3).mono ?_;rintro e w5 ⟨rfl,S⟩;have a1:=P.trans (S.mono P.size);have a4:=W.trans (S.mono W.size);clear S P W t0 t1 t2 t3 d0;cases hw:cp u E KP
  .have V:=HU.out hw;have A:Hid _:=V;clear hw V HU HT;go_wp2_with fail;go_roundw
   case rel=>exact⟨j+1,by omega,by go_num,A.out,a1⟩
   case measure=>simp[intOf];omega
  have V:=HT.out hw;have A:=hid V;clear hw V HU HT;go_wp2_with fail;go_ret;exact⟨by rw[jn,dv Y A.out];rfl,y.trans (a4.mono y.size)⟩
 have bn:=T.le;have au:=T.cap;have bv:=au;unfold maxLen at bv;go_wp2_with fail;rw[HV.out];refine(M7 83 #[] (λj=>jy (d.z j)) _ _ _ _ bn au d.z T.hds (enters_of func83 (by kernel_rfl) rfl) (λi w1 _ _=>by rw[Array.append_empty];exact Ze _ _)).mono ?_;rintro e W2 ⟨rfl,ar⟩;have an:=af.trans (ar.mono af.size);have a3:=T.below ar;have av:=hY.below ar;have d1:=av.cell (j:=1) (by simp);have b3:W2.cell? ⟨wr.heap.size,1,none⟩=some (.slice d.a d.n d.c):=d1;have bg:=av.lt;clear d1 ar;cases h2:ax d.n (λj=>jy (d.z j))
 .have A:Hid (ch s i=true):=by show ch s i=true;rw[HE.out,h1,h2];rfl
  clear h2;go_wp2_with fail;go_ret;exact⟨by rw[jn,dv Y A.out];rfl,y.trans (an.mono y.size)⟩
 have ae:Hid (ch s i=ax d.n (λj=>cp u (d.z j) (keptS s.hs.z i j s.hs.n))):=by show ch s i=_;rw[HE.out,h1,h2];rfl
 clear HE h2;go_wp2_with fail;clear b3 bg;have ag:=an;have ad:=a3;have D:=av;obtain⟨M,g⟩:∃M,wr.heap.size=M:=⟨_,rfl⟩;rw[g] at D ⊢;have HD:Hid (∀m,Below W2.heap.size W2 m->d.At m/\m.cell? ⟨M,0,none⟩=some (.int .i64 u)/\M<m.heap.size/\Below x.heap.size x m):=λm h=>⟨ad.below h,(D.below h).k 0,(D.below h).lt,ag.trans (h.mono ag.size)⟩;clear ad D hl hB aw z0 z1 g af T hY HV HB hb an a3 av
 go_loopw [29] (λi0 m=>∃k:Nat,k<=d.n/\i0 = .int .i64 k/\(∀j,j<k->cp u (d.z j) (keptS s.hs.z i j s.hs.n)=false)/\Below W2.heap.size W2 m) (λi0 _=>d.n-(intOf i0).toNat)
 case atStart=>exact⟨0,Qxz _,rfl,λj X=>absurd X (Qzq _),Below.refl _ _⟩
 obtain⟨j,X,rfl,G,v⟩:=hrel;have HM:=hid G;clear G;by_cases J:j<d.n;rotate_left
 .have HA:Hid (ch s i=false):=by show ch s i=false;rw[ae.out];exact cu λq ai=>HM.out q (by omega)
  have r:=(HD.out wr v).2.2.2;go_wp2_with fail;go_roundw
  case measure=>simp[intOf];omega
  refine⟨i+1,by omega,by go_num,?_,r⟩;intro q ai;by_cases L:q=i
  .rw[L];exact HA.out
  exact HN.out q (by omega)
 obtain⟨ak,d0,Q,r⟩:=HD.out wr v;obtain⟨F,c2,aw⟩:=HC.out wr r;obtain⟨b',o',ac,b2,y0,y1,y2,y3⟩:=ak.hds j J;have q2:(0:Int)<=(j:Int):=by omega
 obtain⟨k1,k2,k3⟩:=HL.out j J;have HT:Hid (cp u (d.z j) (keptS s.hs.z i j s.hs.n)=true->ch s i=true):=λh=>by rw[ae.out];exact dv J h
 have HU:Hid (cp u (d.z j) (keptS s.hs.z i j s.hs.n)=false->∀q,q<j+1->cp u (d.z q) (keptS s.hs.z i q s.hs.n)=false):=λh q ai=>by
  by_cases L:q=j
  .rw[L];exact h
  exact HM.out q (by omega)
 have aj:=U6 (s:=s.hs) (o:=i) (l:=j) HF.out.hold;have B:=(Below.refl wr.heap.size wr).alloc nlr (.cells #[.int .i64 (d.z j).o,.int .i64 (d.z j).l,.int .i64 (d.z j).b,.int .i64 (d.z j).n] 59);have ah:=Blk.new wr #[.int .i64 (d.z j).o,.int .i64 (d.z j).l,.int .i64 (d.z j).b,.int .i64 (d.z j).n] 59;have K:=hid aj;rw[ac];clear ac ak HM aj
 generalize d.z j=E at *
 go_wp2_with fail;refine(Rn s.hs i j _ (F.hs.below B)).mono ?_;rintro e U ⟨rfl,H⟩;rw[K.out.1,K.out.2]
 generalize keptS s.hs.z i j s.hs.n=KP at *
 have g:=B.trans (H.mono B.size);have t:=ah.below H;have d0:=(g.cell (p:=⟨M,0,none⟩) Q).trans d0;have Q:=Xzx Q g.size;have t0:U.cell? ⟨wr.heap.size,0,none⟩=some (.int .i64 E.o):=t.cell (j:=0) (by simp);have t1:U.cell? ⟨wr.heap.size,1,none⟩=some (.int .i64 E.l):=t.cell (j:=1) (by simp);have t2:U.cell? ⟨wr.heap.size,2,none⟩=some (.int .i64 E.b):=t.cell (j:=2) (by simp);have t3:U.cell? ⟨wr.heap.size,3,none⟩=some (.int .i64 E.n):=t.cell (j:=3) (by simp);have bi:=t.lt;have P:=v.trans (g.mono v.size);have W:=r.trans (g.mono r.size);clear H ah B t g F c2 y0 y1 y2 y3 v r K;go_wp2_with fail;refine(Ik u E KP U k1 k2 k3).mono ?_;rintro e w5 ⟨rfl,S⟩;have a1:=P.trans (S.mono P.size);have a4:=W.trans (S.mono W.size);clear S P W t0 t1 t2 t3 d0;cases hw:cp u E KP
 .have V:=HU.out hw;have A:Hid _:=V;clear hw V HU HT;go_wp2_with fail;go_roundw
  case rel=>exact⟨j+1,by omega,by go_num,A.out,a1⟩
  case measure=>simp[intOf];omega
 have V:=HT.out hw;have A:=hid V;clear hw V HU HT;go_wp2_with fail;go_ret;exact⟨by rw[jn,dv Y A.out];rfl,y.trans (a4.mono y.size)⟩
def ji(p:Pl)(s:St):Bool := !(lq p s||jn s)
theorem Vd(a:g<p.ns)(h:iy p s g=true):ji p s=false:=by
 have:lq p s=true:=dv a h;simp[ji,this]
theorem Mh(hi:i<s.os.n)(h:ch s i=true):ji p s=false:=by
 have:jn s=true:=dv hi h;simp[ji,this]
theorem adl(d:∀g,g<p.ns->iy p s g=false)(c:∀i,i<s.os.n->ch s i=false):ji p s=true:=by
 have a:lq p s=false:=cu d;have b:jn s=false:=cu c;simp[ji,a,b]
theorem adp(h:¬cv (λi=>(s.on.r i).z g) s.on.n=s.si.z g-s.so.z g+s.sf.z g):iy p s g=true:=by
 rw[qu];have:(cv (λi=>(s.on.r i).z g) s.on.n==s.si.z g-s.so.z g+s.sf.z g)=false:=by simpa using h
 rw[this];rfl
theorem abx(a:b<p.nb)(h:(s.on.r b).z g<ca s b g s.hs.n+bj s b g s.ms.n):iy p s g=true:=by
 rw[qu,dv a (decide_eq_true (by unfold aw;omega)),Bool.or_true]
theorem ad4(h:cv (λi=>(s.on.r i).z g) s.on.n=s.si.z g-s.so.z g+s.sf.z g)(c:∀b,b<p.nb->decide ((s.on.r b).z g<ca s b g s.hs.n+bj s b g s.ms.n)=false):iy p s g=false:=by
 rw[qu,h,cu λb a => ?_]
 .simp
 have:=of_decide_eq_false (c b a);exact decide_eq_false (by unfold aw;omega)
def ud(ls:Nat->Hd)(n:Nat):Bool := !ax n (λj=>jy (ls j))
theorem Uo(ls:Nat->Hd)(n:Nat):ud ls (n+1)=(ud ls n&&((ls n).b==(ls n).l)):=by
 unfold ud;rw[Ev];simp[jy]
theorem Un{b c:Bool}(h:ud z n=b)(a:((z n).b==(z n).l)=c):ud z (n+1)=(b&&c):=by rw[Uo,h,a]
theorem Ai{k:Nat}{f:Nat->Bool}{b:Bool}(h:∀j,j<k->f j=b)(c:f k=b):∀j,j<k+1->f j=b:=λj d=>by
 by_cases a:j=k
 .rw[a];exact c
 exact h j (by omega)
theorem wL0{x:Hd}(d:0<=x.b/\x.b<=200)(c:0<=x.n/\x.n<=200)(a:0<=r/\r<=14400):cp 0 x r = !(x.b+x.n+r==0):=by
 unfold cp;rw[if_pos rfl,Bool.eq_iff_iff];simp only[Bool.or_eq_true,Bool.not_eq_true',beq_eq_false_iff_ne,ne_eq];omega
theorem wL1{x:Hd}:cp 1 x r = !(x.b+x.n+r==x.l):=by
 unfold cp;rw[if_neg (by decide),if_neg (by decide)]
theorem wL2{x:Hd}:cp 2 x r=(!(x.b+x.n+r==x.l) || !(r==0)):=by
 unfold cp;rw[if_neg (by decide),if_pos rfl,Bool.eq_iff_iff];simp only[Bool.or_eq_true,Bool.not_eq_true',beq_eq_false_iff_ne,ne_eq];omega
theorem ae(h:∃p:Regrown,a=grow (redrawn w p.d) p.os):Below w.heap.size w a:=by
 obtain⟨p,rfl⟩:=h;exact Qxx _ _ _
theorem Li{A:World}{B:Nat}(g:Blk w B e 4 f)(c:Below A.heap.size A w)(a:A.heap.size<=B)(x:Hd):
  ∃W,(((w.setCell ⟨B,0,none⟩ (.int .i64 x.o)).setCell ⟨B,1,none⟩ (.int .i64 x.l)).setCell ⟨B,2,none⟩ (.int .i64 x.b)).setCell ⟨B,3,none⟩ (.int .i64 x.n)=W/\Below A.heap.size A W /\
   Blk W B e 4 (λj=>(#[.int .i64 x.o,.int .i64 x.l,.int .i64 x.b,.int .i64 x.n]:Array Value).getD j default):=
 ⟨_,rfl,(((c.setCell (p:=⟨B,0,none⟩) a _).setCell (p:=⟨B,1,none⟩) a _).setCell (p:=⟨B,2,none⟩) a _).setCell (p:=⟨B,3,none⟩) a _,
  ((((g.set 0 _).set 1 _).set 2 _).set 3 _).congr (λj d=>by match j,d with|0,_=>rfl|1,_=>rfl|2,_=>rfl|3,_=>rfl)⟩
theorem Xq(p:Pl)(s:St)(w:World)(hp:p.At w)(hs:s.At w)(f:cx p s):
  Calls prog 51 #[p.val,s.val] w λe w'=>e = .returned (.bool (ji p s))/\Below w.heap.size w w':=by
 obtain⟨W0,hW,ed,X0⟩:=Jr w p s;have HC:=Hu hp hs ed X0;have HW:=hid hW;have leb:=hp.leb;have capb:=hp.capb;have les:=hp.les;have caps:=hp.caps;have fp:=hs.os.le;have dx:=hs.os.cap;unfold maxLen at capb caps dx;have os4:=f.os4;have fn:=f.hs72;have ms8:=f.ms8;have ns3:=f.sh.pl.ns3;have nb6:=f.sh.pl.nb6;have HF:=hid f;clear hW X0 hp hs f;unfold Pl.val St.val;go_enter func51,ntmps51;go_wp2_with fail;rw[HW.out]
 go_loopw [5] (λi t=>∃k:Nat,k<=p.ns/\i = .int .i64 k/\(∀j,j<k->iy p s j=false)/\Below W0.heap.size W0 t) (λi _=>p.ns-(intOf i).toNat)
 case atStart=>exact⟨0,Qxz _,rfl,λj hj=>absurd hj (Qzq _),Below.refl _ _⟩
 obtain⟨g,hg,rfl,ac,H⟩:=hrel;have HN:=hid ac;clear ac;obtain⟨X,an,J,E⟩:=HC.out wr H;obtain⟨⟨l1,d0,d1⟩,l2,c0,c1,c2,c3,c4,c5,c6⟩:=X;by_cases P:g<p.ns
 .have qg:(0:Int)<=(g:Int):=by omega
  have F:=HF.out;obtain⟨b1,o1,e1,g1,z1⟩:=J.si.ints g (by rw[F.sin];exact P);obtain⟨b2,o2,e2,g2,z2⟩:=J.so.ints g (by rw[F.son];exact P);obtain⟨b3,o3,e3,g3,z3⟩:=J.sf.ints g (by rw[F.sfn];exact P);have v1:=J.si.le;have v2:=J.so.le;have v3:=J.sf.le;have v4:=J.si.cap;have v5:=J.so.cap;have v6:=J.sf.cap;have u1:=F.sib g P;have u2:=F.sob g P;have u3:=F.sfb g P;unfold maxLen at v4 v5 v6;have dg:=hid J.on;rw[e1,F.sin] at c4;rw[e2,F.son] at c5;rw[e3,F.sfn] at c6;rw[F.sin] at v1;rw[F.son] at v2;rw[F.sfn] at v3;have r0:=Qqq c0;have r4:=Qqq c4;have r5:=Qqq c5;have r6:=Qqq c6;have r7:=Qqq z1;have r8:=Qqq z2;have r9:=Qqq z3;have es:Hid (¬cv (λi=>(s.on.r i).z g) s.on.n=s.si.z g-s.so.z g+s.sf.z g->ji p s=false):=λh=>Vd P (adp h);have ee:Hid (∀b,b<p.nb->(s.on.r b).z g<ca s b g s.hs.n+bj s b g s.ms.n->ji p s=false):=λb hb h=>Vd P (abx hb h);have eg:Hid (cv (λi=>(s.on.r i).z g) s.on.n=s.si.z g-s.so.z g+s.sf.z g->(∀b,b<p.nb->decide ((s.on.r b).z g<ca s b g s.hs.n+bj s b g s.ms.n)=false)->iy p s g=false):=λh y=>ad4 h y;have b4:Hid (∀t,s.on.At t->Calls prog 112 #[s.on.val,.int .i64 g] t λe w'=>e = .returned (.int .i64 (cv (λi=>(s.on.r i).z g) s.on.n))/\Below t.heap.size t w'):=λt h=>Yc p s.on g t h F.sh P;unfold Sh.val at b4;clear e1 e2 e3 J an c0 c1 c2 c3 c4 c5 c6 z1 z2 z3 d0 F
  generalize cv (λi=>(s.on.r i).z g) s.on.n=SM at *
  generalize s.si.z g=I1 at *
  generalize s.so.z g=I2 at *
  generalize s.sf.z g=I3 at *
  go_wp2_with fail;refine Qxq (by kernel_rfl) (by kernel_rfl) ?_
  repeat(go_big_quiet_step((go_at_call 112;exact Xxz (b4.out _ (dg.out.below (Qxx _ _ _))))))
  refine Qqz ?_;intro _ am;obtain⟨⟨dq,a9⟩,aa⟩:=am;subst aa;have c8:=H.trans ((Qxx wr dq a9).mono H.size);clear r0 r4 r5 r6 r7 r8 r9 dg b4 H E l1 l2 d1 g1 g2 g3 v1 v2 v3 v4 v5 v6
  generalize grow (redrawn wr dq) a9=wz at *
  obtain⟨X,an,J,E⟩:=HC.out wz c8;obtain⟨⟨l1,d0,d1⟩,l2,c0,c1,c2,c3,c4,c5,c6⟩:=X;by_cases bg:SM=I1-I2+I3;rotate_left
  .have he:(SM !=I1-I2+I3)=true:=by simp[bg]
   have A:Hid (ji p s=false):=es.out bg;rw[he];clear bg he an J c0 c1 c2 c3 c4 c5 c6 d0 d1 l1 l2;go_wp2_with fail;go_ret;exact⟨by rw[A.out];rfl,E⟩
  have he:(SM !=I1-I2+I3)=false:=by simp[bg]
  have el:=hid bg;rw[he];clear bg he an J c0 c1 c2 c3 c4 c5 c6 E;go_wp2_with fail;clear d0 d1 l1 l2
  go_loopw [6] (λi t=>∃k:Nat,k<=p.nb/\i = .int .i64 k/\(∀b,b<k->decide ((s.on.r b).z g<ca s b g s.hs.n+bj s b g s.ms.n)=false)/\Below W0.heap.size W0 t) (λi _=>p.nb-(intOf i).toNat)
  case atStart=>exact⟨0,Qxz _,rfl,λj hj=>absurd hj (Qzq _),c8⟩
  clear c8;obtain⟨b,hb,rfl,ac,H⟩:=hrel;have HM:=hid ac;clear ac;obtain⟨X,an,J,E⟩:=HC.out wr H;obtain⟨⟨l1,d0,d1⟩,l2,c0,c1,c2,c3,c4,c5,c6⟩:=X;by_cases dl:b<p.nb;rotate_left
  .have HA:Hid (iy p s g=false):=eg.out el.out λb' dk=>HM.out b' (by omega);clear J an c0 c1 c2 c3 c4 c5 c6 HM;go_wp2_with fail;go_roundw
   case rel=>exact⟨g+1,by omega,by go_num,Ai HN.out HA.out,H⟩
   case measure=>simp[intOf];omega
  have qb:(0:Int)<=(b:Int):=by omega
  have F:=HF.out;have c9:b<s.on.n:=by rw[F.sh.n];exact dl
  obtain⟨bo,oo,bi,fo,y0,bn⟩:=J.on.rows b c9;have rn:=F.sh.len b c9;obtain⟨br,fr,dm,fq,y1⟩:=bn.ints g (by rw[rn];exact P);have v1:=bn.le;have v2:=bn.cap;have v3:=J.on.le;have v4:=J.on.cap;unfold maxLen at v2 v4;have hx:=nw (s:=s) (b:=b) (g:=g) F.holdN;have hy:=jx (s:=s) (b:=b) (g:=g) F.moveN;have hz:=F.sh.num b c9 g P;rw[dm,rn] at y0;rw[rn] at v1;rw[bi] at c0;have da:=qa2 J bi;have r0:=Qqq c0;have r1:=Qqq c1;have r2:=Qqq c2;have r3:=Qqq c3;have r4:=Qqq c4;have r5:=Qqq c5;have r6:=Qqq c6;have r7:=Qqq y0;have r8:=Qqq y1;have dj:Hid (∀t,s.At t->Calls prog 113 #[.agg #[.slice (some ⟨bo,oo,none⟩) s.on.n s.on.c,.slice s.os.a s.os.n s.os.c,.slice s.hs.a s.hs.n s.hs.c,.slice s.ms.a s.ms.n s.ms.c,.slice s.si.a s.si.n s.si.c,.slice s.so.a s.so.n s.so.c,.slice s.sf.a s.sf.n s.sf.c],.int .i64 b,.int .i64 g] t λe w'=>e = .returned (.int .i64 (ca s b g s.hs.n+bj s b g s.ms.n))/\Below t.heap.size t w'):=λt h=>by
   have:=I4 p s b g t h HF.out;rw[St.val,da.out.2] at this;exact this
  have dh:Hid (((s.on.r b).z g<ca s b g s.hs.n+bj s b g s.ms.n->ji p s=false)/\(¬(s.on.r b).z g<ca s b g s.hs.n+bj s b g s.ms.n->∀b',b'<b+1->decide ((s.on.r b').z g<ca s b' g s.hs.n+bj s b' g s.ms.n)=false)):=⟨ee.out b dl,λh=>Ai HM.out (decide_eq_false h)⟩;clear bi dm bn rn F J an c0 c1 c2 c3 c4 c5 c6 y0 y1 HM d1
  generalize ca s b g s.hs.n+bj s b g s.ms.n=BD at *
  generalize (s.on.r b).z g=ON at *
  generalize (s.on.r b).c=RC at *
  by_cases hq:ON<BD
  .have A:Hid (ji p s=false):=dh.out.1 hq;go_wp2_with fail;refine Qxq (by kernel_rfl) (by kernel_rfl) ?_
   repeat(go_big_quiet_step((go_at_call 113;exact Xxz (dj.out _ (da.out.1.below (Qxx _ _ _))))))
   refine Qqz ?_;intro _ am;obtain⟨⟨dq,a9⟩,aa⟩:=am;subst aa;go_wp2_with fail;go_ret;exact⟨by rw[A.out];rfl,E.trans ((Qxx _ _ _).mono E.size)⟩
  have A:=dh.out.2 hq;have aj:Hid _:=A;clear A;go_wp2_with fail;refine Qxq (by kernel_rfl) (by kernel_rfl) ?_
  repeat(go_big_quiet_step((go_at_call 113;exact Xxz (dj.out _ (da.out.1.below (Qxx _ _ _))))))
  refine Qqz ?_;intro _ am;obtain⟨⟨dq,a9⟩,aa⟩:=am;subst aa;go_wp2_with fail;go_roundw
  case rel=>exact⟨b+1,by omega,by go_num,aj.out,H.trans ((Qxx _ _ _).mono H.size)⟩
  case measure=>simp[intOf];omega
 have ef:Hid (∀j,j<p.ns->iy p s j=false):=λj hj=>HN.out j (by omega);clear HN J an c0 c1 c2 c3 c4 c5 c6 E;go_wp2_with fail;clear d0 d1 l1 l2 P hg
 go_loopw [7] (λi t=>∃k:Nat,k<=s.os.n/\i = .int .i64 k/\(∀j,j<k->ch s j=false)/\Below W0.heap.size W0 t) (λi _=>s.os.n-(intOf i).toNat)
 case atStart=>exact⟨0,Qxz _,rfl,λj hj=>absurd hj (Qzq _),H⟩
 clear H;obtain⟨i,hi,rfl,ac,H⟩:=hrel;have HN:=hid ac;clear ac;obtain⟨X,an,J,E⟩:=HC.out wr H;obtain⟨⟨l1,d0,d1⟩,l2,c0,c1,c2,c3,c4,c5,c6⟩:=X;by_cases P:i<s.os.n;rotate_left
 .have A:Hid (ji p s=true):=adl ef.out λj hj=>HN.out j (by omega);clear J an c0 c2 c3 c4 c5 c6 d0 d1;go_wp2_with fail;go_ret;exact⟨by rw[A.out];rfl,E⟩
 obtain⟨b,o,bi,hb,U,z1,hl⟩:=J.os.ods i P;have qi:(0:Int)<=(i:Int):=by omega
 have HL:Hid (∀t,Below W0.heap.size W0 t->t.cell? ⟨b,o+i*2,none⟩=some (.int .i64 (s.os.z i).k)/\t.cell? ⟨b,o+i*2+1,none⟩=some (.slice (s.os.z i).ls.a (s.os.z i).ls.n (s.os.z i).ls.c)/\(s.os.z i).ls.At t/\t.cell? ⟨w.heap.size+1,1,none⟩=some (.slice (some ⟨b,o,none⟩) s.os.n s.os.c)/\w.heap.size+1<t.heap.size/\b<t.heap.size/\Below w.heap.size w t/\s.hs.At t/\t.cell? ⟨w.heap.size+1,2,none⟩=some (.slice s.hs.a s.hs.n s.hs.c)):=λt h=>by
  obtain⟨X,-,dn,ek⟩:=HC.out t h;obtain⟨-,m2,-,f1,f2,-⟩:=X;obtain⟨b',o',b8,dk,x0,x1,ev⟩:=dn.os.ods i P;rw[bi] at b8 f1;simp only[Qkx,Qkz,and_true] at b8;obtain⟨rfl,rfl⟩:=b8;exact⟨x0,x1,ev,f1,m2,dk,ek,dn.hs,f2⟩
 have fm:=hl.le;have ds:=hl.cap;have l3:=HF.out.lns i P;have kd:=HF.out.kind i P;unfold maxLen at ds;have HE:Hid (ch s i=(((s.os.z i).k==1&&ud (s.os.z i).ls.z (s.os.z i).ls.n)||ax (s.os.z i).ls.n (λj=>cp (s.os.z i).k ((s.os.z i).ls.z j) (keptS s.hs.z i j s.hs.n)))):=Il;have di:Hid (∀j,j<(s.os.z i).ls.n->(0<=((s.os.z i).ls.z j).b/\((s.os.z i).ls.z j).b<=200)/\(0<=((s.os.z i).ls.z j).n/\((s.os.z i).ls.z j).n<=200)/\0<=keptS s.hs.z i j s.hs.n/\keptS s.hs.z i j s.hs.n<=14400):=λj hj=>by
  have a:=er (HF.out.line i P j hj);have c:=tm (z:=s.hs.z) (i:Int) (j:Int) s.hs.n HF.out.holdN;omega
 clear bi hl J an c0 c2 c3 c4 c5 c6 U z1 d0 d1 E hb
 generalize (s.os.z i).k=Q at *
 generalize (s.os.z i).ls=L at *
 go_wp2_with fail;clear c1 l1 l2
 go_loopw [8,9] (λu i0 t=>∃k:Nat,k<=L.n/\i0 = .int .i64 k/\u = .bool (ud L.z k)/\Below W0.heap.size W0 t) (λ_ i0 _=>L.n-(intOf i0).toNat)
 case atStart=>exact⟨0,Qxz _,rfl,rfl,H⟩
 clear H;obtain⟨j,hj,rfl,rfl,H⟩:=hrel;obtain⟨U,z1,W,c1,l2,hb,E,-,-⟩:=HL.out wr H;by_cases au:j<L.n
 .obtain⟨b2,o2,a4,cc,y0,y1,y2,y3⟩:=W.hds j au;have qj:(0:Int)<=(j:Int):=by omega
  rw[a4] at z1;have r0:=Qqq c1;have r1:=Qqq z1;have r2:=Qqq y1;have r3:=Qqq y2;have bh:Hid (∀b c,ud L.z j=b->((L.z j).b==(L.z j).l)=c->ud L.z (j+1)=(b&&c)):=λ_ _ h1 y=>Un h1 y;clear a4 W y0 y1 y2 y3
  generalize (L.z j).l=WN at *
  generalize (L.z j).b=GT at *
  cases h1:ud L.z j
  .have A:Hid (ud L.z (j+1)=false):=bh.out _ _ h1 rfl;clear bh h1;go_wp2_with fail;refine Qxq (by kernel_rfl) (by kernel_rfl) ?_
   repeat(go_big_quiet_step(fail))
   refine Qqz ?_;intro _ am;obtain⟨⟨dq,a9⟩,aa⟩:=am;subst aa;clear r0 r1 r2 r3;go_wp2_with fail;go_roundw
   case rel=>exact⟨j+1,by omega,by go_num,by rw[A.out],H.trans ((Qxx _ _ _).mono H.size)⟩
   case measure=>simp[intOf];omega
  cases y:(GT==WN)
  .have A:Hid (ud L.z (j+1)=false):=bh.out _ _ h1 y;clear bh h1;go_wp2_with fail;refine Qxq (by kernel_rfl) (by kernel_rfl) ?_
   repeat(go_big_quiet_step(fail))
   refine Qqz ?_;intro _ am;obtain⟨⟨dq,a9⟩,aa⟩:=am;subst aa;clear r0 r1 r2 r3;go_wp2_with fail;go_roundw
   case rel=>exact⟨j+1,by omega,by go_num,by rw[A.out],H.trans ((Qxx _ _ _).mono H.size)⟩
   case measure=>simp[intOf];omega
  have A:Hid (ud L.z (j+1)=true):=bh.out _ _ h1 y;clear bh h1;go_wp2_with fail;refine Qxq (by kernel_rfl) (by kernel_rfl) ?_
  repeat(go_big_quiet_step(fail))
  refine Qqz ?_;intro _ am;obtain⟨⟨dq,a9⟩,aa⟩:=am;subst aa;clear r0 r1 r2 r3;go_wp2_with fail;go_roundw
  case rel=>exact⟨j+1,by omega,by go_num,by rw[A.out],H.trans ((Qxx _ _ _).mono H.size)⟩
  case measure=>simp[intOf];omega
 have en:j=L.n:=by omega
 subst en;cases hN:ud L.z L.n
 .have bq:Hid (ch s i=ax L.n (λj=>cp Q (L.z j) (keptS s.hs.z i j s.hs.n))):=by show ch s i=_;rw[HE.out,hN,Bool.and_false,Bool.false_or]
  clear hN HE;go_wp2_with fail;clear U z1 W c1 l2 hb E
  go_loopw [10] (λi0 t=>∃k:Nat,k<=L.n/\i0 = .int .i64 k/\(∀j,j<k->cp Q (L.z j) (keptS s.hs.z i j s.hs.n)=false)/\Below W0.heap.size W0 t) (λi0 _=>L.n-(intOf i0).toNat)
  case atStart=>exact⟨0,Qxz _,rfl,λj hj=>absurd hj (Qzq _),H⟩
  clear H;obtain⟨j,hj,rfl,ac,H⟩:=hrel;have HM:=hid ac;clear ac;obtain⟨U,z1,W,c1,l2,hb,E,al,c2⟩:=HL.out wr H;by_cases au:j<L.n;rotate_left
  .have HA:Hid (ch s i=false):=by show ch s i=false;rw[bq.out];exact cu λj' eu=>HM.out j' (by omega)
   clear U al c2 E W;go_wp2_with fail;go_roundw
   case rel=>exact⟨i+1,by omega,by go_num,Ai HN.out HA.out,H⟩
   case measure=>simp[intOf];omega
  obtain⟨b2,o2,a4,cc,y0,y1,y2,y3⟩:=W.hds j au;have qj:(0:Int)<=(j:Int):=by omega
  obtain⟨k1,k2,k3⟩:=di.out j au;have Y:Hid (cp Q (L.z j) (keptS s.hs.z i j s.hs.n)=true->ji p s=false):=λh=>Mh P (by rw[bq.out];exact dv au h);have HU:Hid (cp Q (L.z j) (keptS s.hs.z i j s.hs.n)=false->∀j',j'<j+1->cp Q (L.z j') (keptS s.hs.z i j' s.hs.n)=false):=λh=>Ai HM.out h;rw[a4] at z1;have cq:Hid (∀t,Below wr.heap.size wr t->Calls prog 114 #[.slice s.hs.a s.hs.n s.hs.c,.int .i64 i,.int .i64 j] t λe w'=>e = .returned (.int .i64 (keptS s.hs.z i j s.hs.n))/\w'=t):=λt h=>Mx s.hs i j t (al.below h) HF.out.hold;have r0:=Qqq c1;have r1:=Qqq z1;have r2:=Qqq y0;have r3:=Qqq y1;have r4:=Qqq y2;have r5:=Qqq y3;have r6:=Qqq c2;clear a4 W y0 y1 y2 y3 al c2 U HM E
  generalize keptS s.hs.z i j s.hs.n=D at *
  generalize L.z j=m at *
  go_wp2_with fail;refine fh (λw'=>∃p:Regrown,w'=grow (redrawn wr p.d) p.os) (List.range 13) [13,14] [(false,15),(true,16)] (Qqx (brf.drew)) ?_;rw[show List.range 13=[0,1,2,3,4,5,6,7,8,9,10,11,12] from rfl];simp only[du,Qyq,Xqq,Qyx,Qyz,Xqz,Xqx]
  repeat(go_big_quiet_step(fail))
  refine Qqz ?_;refine⟨λj v gg t=>match j with|13=>v = .int .i64 D/\gg=[]|14=>∃B,v = .pointer (some ⟨B,0,none⟩)/\gg=[B]/\wr.heap.size<=B/\Blk t B 59 4 (λ_ => .int .i64 0)|_=>True,Qjx ⟨?m13,Qjx ⟨?m14,Qjq _⟩⟩,Qjx ⟨?l13,Qjx ⟨?l14,Qjq _⟩⟩,Qjx ⟨?s13,Qjx ⟨?s14,Qjq _⟩⟩,?done⟩
  case m13=>intro v g w w' _ h;exact h
  case m14=>intro v g w w' H h;obtain⟨B,h1,h0,y,h3⟩:=h;exact⟨B,h1,h0,y,h3.below H⟩
  case l13=>intro v g w h;rw[(show v = .int .i64 D/\g=[] from h).2];intro x hx;cases hx
  case l14=>intro v g w h;obtain⟨B,h1,h0,y,h3⟩:=h;rw[h0];intro x hx;rw[List.mem_singleton] at hx;rw[hx];exact h3.lt
  case s13 =>
   intro V G t K hS hd hK;obtain⟨pp,rfl⟩:=hS;refine aq 13 rfl ?_;simp only[ap,az,Qvz,Qwq,Qvx,Act.put,Qvq,Qwx,Qwz] at hK ⊢;go_wp2_with fail;refine(cq.out _ (Qxx _ _ _)).mono ?_;rintro e w' ⟨rfl,rfl⟩;go_wp2_with fail;exact hK _ [] _ ⟨pp,rfl⟩ brf (λx hx=>(by cases hx)) ⟨rfl,rfl⟩
  case s14 =>
   intro V G t K hS hd hK;have hX:=ae hS;refine aq 14 rfl ?_;simp only[ap,az,Qvz,Qwq,Qvx,Act.put,Qvq,Qwx,Qwz] at hK ⊢;go_wp2_with fail;exact hK _ [t.heap.size] _ (Qqx (hX.alloc hX.size _)) (brf.alloc nlr _) (λx hx=>(by rw[List.mem_singleton] at hx;omega)) ⟨t.heap.size,rfl,rfl,hX.size,(Blk.mk' (cur:=#[.int .i64 0,.int .i64 0,.int .i64 0,.int .i64 0]) rfl rfl).congr (λj hj=>by match j,hj with|0,_=>rfl|1,_=>rfl|2,_=>rfl|3,_=>rfl)⟩
  case done =>
   intro V G t hS hD hA;have bs:=(show V 13 = .int .i64 D/\G 13=[] from hD 13 (by simp)).1;have av:∃B,V 14 = .pointer (some ⟨B,0,none⟩)/\G 14=[B]/\wr.heap.size<=B/\Blk t B 59 4 (λ_ => .int .i64 0):=hD 14 (by simp);obtain⟨B4,av,-,bz,hY⟩:=av;have hX:=ae hS;clear hS hD hA r0 r1 r2 r3 r4 r5 r6;have cs:=hY.lt;have f0:=hY.frozen 0;have f1:=hY.frozen 1;have f2:=hY.frozen 2;have f3:=hY.frozen 3;have e0:=hY.k 0;have e1:=hY.k 1;have e2:=hY.k 2;have e3:=hY.k 3;simp only[ap,az,Qvz,Qwq,Qvx,Act.put,Qvq,Qwx,Qwz,bs,av];refine cf 15 rfl ?_;go_wp2_with fail;obtain⟨W5,bw,bb,ai⟩:=Li hY hX bz m;rw[bw];refine⟨gy.no (Qqx bb),?_⟩;refine cf 16 rfl ?_;go_wp2_with fail;refine⟨gy.yes,?_⟩;refine NoPanic.normal ?_;have aw:=H.trans (bb.mono H.size);have t0:W5.cell? ⟨B4,0,none⟩=some (.int .i64 m.o):=ai.cell (j:=0) (by simp);have t1:W5.cell? ⟨B4,1,none⟩=some (.int .i64 m.l):=ai.cell (j:=1) (by simp);have t2:W5.cell? ⟨B4,2,none⟩=some (.int .i64 m.b):=ai.cell (j:=2) (by simp);have t3:W5.cell? ⟨B4,3,none⟩=some (.int .i64 m.n):=ai.cell (j:=3) (by simp);have ea:=ai.lt;clear bb bw ai hX hY f0 f1 f2 f3 e0 e1 e2 e3 bs av cs bz z1 c1 l2 hb cc H;obtain⟨U,z1,W,c1,l2,hb,E,al,c2⟩:=HL.out W5 aw;clear W al c2 z1;have q:Q=0\/Q=1\/Q=2:=by omega
   have S:Hid (∀b,Q=0->(m.b+m.n+D==0)=b->cp Q m D = !b):=λb h y=>by rw[h,wL0 k1 k2 k3,y]
   have T:Hid (∀b,Q=1->(m.b+m.n+D==m.l)=b->cp Q m D = !b):=λb h y=>by rw[h,wL1,y]
   have M:Hid (∀b c,Q=2->(m.b+m.n+D==m.l)=b->(D==0)=c->cp Q m D=(!b || !c)):=λb c h y h3=>by rw[h,wL2,y,h3]
   generalize cp Q m D=WL at *
   rcases q with q|q|q
   .cases y:(m.b+m.n+D==0)
    .have A:Hid (ji p s=false):=Y.out (S.out _ q y);have n2:(m.b+m.n+D !=0)=true:=by rw[bne,y];rfl
     rw[q] at U;clear S T M Y HU q;go_wp2_with fail;go_ret;exact⟨by rw[A.out];rfl,E⟩
    have A:=HU.out (S.out _ q y);have n2:(m.b+m.n+D !=0)=false:=by rw[bne,y];rfl
    have aj:Hid _:=A;rw[q] at U;clear S T M Y HU q A;go_wp2_with fail;go_roundw
    case rel=>exact⟨j+1,by omega,by go_num,aj.out,aw⟩
    case measure=>simp[intOf];omega
   .cases y:(m.b+m.n+D==m.l)
    .have A:Hid (ji p s=false):=Y.out (T.out _ q y);have n2:(m.b+m.n+D !=m.l)=true:=by rw[bne,y];rfl
     rw[q] at U;clear S T M Y HU q;go_wp2_with fail;go_ret;exact⟨by rw[A.out];rfl,E⟩
    have A:=HU.out (T.out _ q y);have n2:(m.b+m.n+D !=m.l)=false:=by rw[bne,y];rfl
    have aj:Hid _:=A;rw[q] at U;clear S T M Y HU q A;go_wp2_with fail;go_roundw
    case rel=>exact⟨j+1,by omega,by go_num,aj.out,aw⟩
    case measure=>simp[intOf];omega
   cases y:(m.b+m.n+D==m.l)
   .have A:Hid (ji p s=false):=Y.out (M.out _ _ q y rfl);have n2:(m.b+m.n+D !=m.l)=true:=by rw[bne,y];rfl
    rw[q] at U;clear S T M Y HU q;go_wp2_with fail;go_ret;exact⟨by rw[A.out];rfl,E⟩
   cases h3:(D==0)
   .have A:Hid (ji p s=false):=Y.out (M.out _ _ q y h3);have n2:(m.b+m.n+D !=m.l)=false:=by rw[bne,y];rfl
    have n3:(D !=0)=true:=by rw[bne,h3];rfl
    rw[q] at U;clear S T M Y HU q;go_wp2_with fail;go_ret;exact⟨by rw[A.out];rfl,E⟩
   have A:=HU.out (M.out _ _ q y h3);have n2:(m.b+m.n+D !=m.l)=false:=by rw[bne,y];rfl
   have n3:(D !=0)=false:=by rw[bne,h3];rfl
   have aj:Hid _:=A;rw[q] at U;clear S T M Y HU q A;go_wp2_with fail;go_roundw
   case rel=>exact⟨j+1,by omega,by go_num,aj.out,aw⟩
   case measure=>simp[intOf];omega
 cases cz:(Q==1);rotate_left
 .have A:Hid (ji p s=false):=Mh P (by rw[HE.out,hN,cz];rfl);clear HE;go_wp2_with fail;go_ret;exact⟨by rw[A.out];rfl,E⟩
 have bq:Hid (ch s i=ax L.n (λj=>cp Q (L.z j) (keptS s.hs.z i j s.hs.n))):=by show ch s i=_;rw[HE.out,cz,Bool.false_and,Bool.false_or]
 clear hN HE;go_wp2_with fail;clear cz;clear U z1 W c1 l2 hb E
 go_loopw [10] (λi0 t=>∃k:Nat,k<=L.n/\i0 = .int .i64 k/\(∀j,j<k->cp Q (L.z j) (keptS s.hs.z i j s.hs.n)=false)/\Below W0.heap.size W0 t) (λi0 _=>L.n-(intOf i0).toNat)
 case atStart=>exact⟨0,Qxz _,rfl,λj hj=>absurd hj (Qzq _),H⟩
 clear H;obtain⟨j,hj,rfl,ac,H⟩:=hrel;have HM:=hid ac;clear ac;obtain⟨U,z1,W,c1,l2,hb,E,al,c2⟩:=HL.out wr H;by_cases au:j<L.n;rotate_left
 .have HA:Hid (ch s i=false):=by show ch s i=false;rw[bq.out];exact cu λj' eu=>HM.out j' (by omega)
  clear U al c2 E W;go_wp2_with fail;go_roundw
  case rel=>exact⟨i+1,by omega,by go_num,Ai HN.out HA.out,H⟩
  case measure=>simp[intOf];omega
 obtain⟨b2,o2,a4,cc,y0,y1,y2,y3⟩:=W.hds j au;have qj:(0:Int)<=(j:Int):=by omega
 obtain⟨k1,k2,k3⟩:=di.out j au;have Y:Hid (cp Q (L.z j) (keptS s.hs.z i j s.hs.n)=true->ji p s=false):=λh=>Mh P (by rw[bq.out];exact dv au h);have HU:Hid (cp Q (L.z j) (keptS s.hs.z i j s.hs.n)=false->∀j',j'<j+1->cp Q (L.z j') (keptS s.hs.z i j' s.hs.n)=false):=λh=>Ai HM.out h;rw[a4] at z1;have cq:Hid (∀t,Below wr.heap.size wr t->Calls prog 114 #[.slice s.hs.a s.hs.n s.hs.c,.int .i64 i,.int .i64 j] t λe w'=>e = .returned (.int .i64 (keptS s.hs.z i j s.hs.n))/\w'=t):=λt h=>Mx s.hs i j t (al.below h) HF.out.hold;have r0:=Qqq c1;have r1:=Qqq z1;have r2:=Qqq y0;have r3:=Qqq y1;have r4:=Qqq y2;have r5:=Qqq y3;have r6:=Qqq c2;clear a4 W y0 y1 y2 y3 al c2 U HM E
 generalize keptS s.hs.z i j s.hs.n=D at *
 generalize L.z j=m at *
 go_wp2_with fail;refine fh (λw'=>∃p:Regrown,w'=grow (redrawn wr p.d) p.os) (List.range 13) [13,14] [(false,15),(true,16)] (Qqx (brf.drew)) ?_;rw[show List.range 13=[0,1,2,3,4,5,6,7,8,9,10,11,12] from rfl];simp only[du,Qyq,Xqq,Qyx,Qyz,Xqz,Xqx]
 repeat(go_big_quiet_step(fail))
 refine Qqz ?_;refine⟨λj v gg t=>match j with|13=>v = .int .i64 D/\gg=[]|14=>∃B,v = .pointer (some ⟨B,0,none⟩)/\gg=[B]/\wr.heap.size<=B/\Blk t B 59 4 (λ_ => .int .i64 0)|_=>True,Qjx ⟨?m13,Qjx ⟨?m14,Qjq _⟩⟩,Qjx ⟨?l13,Qjx ⟨?l14,Qjq _⟩⟩,Qjx ⟨?s13,Qjx ⟨?s14,Qjq _⟩⟩,?done⟩
 case m13=>intro v g w w' _ h;exact h
 case m14=>intro v g w w' H h;obtain⟨B,h1,h0,y,h3⟩:=h;exact⟨B,h1,h0,y,h3.below H⟩
 case l13=>intro v g w h;rw[(show v = .int .i64 D/\g=[] from h).2];intro x hx;cases hx
 case l14=>intro v g w h;obtain⟨B,h1,h0,y,h3⟩:=h;rw[h0];intro x hx;rw[List.mem_singleton] at hx;rw[hx];exact h3.lt
 case s13 =>
  intro V G t K hS hd hK;obtain⟨pp,rfl⟩:=hS;refine aq 13 rfl ?_;simp only[ap,az,Qvz,Qwq,Qvx,Act.put,Qvq,Qwx,Qwz] at hK ⊢;go_wp2_with fail;refine(cq.out _ (Qxx _ _ _)).mono ?_;rintro e w' ⟨rfl,rfl⟩;go_wp2_with fail;exact hK _ [] _ ⟨pp,rfl⟩ brf (λx hx=>(by cases hx)) ⟨rfl,rfl⟩
 case s14 =>
  intro V G t K hS hd hK;have hX:=ae hS;refine aq 14 rfl ?_;simp only[ap,az,Qvz,Qwq,Qvx,Act.put,Qvq,Qwx,Qwz] at hK ⊢;go_wp2_with fail;exact hK _ [t.heap.size] _ (Qqx (hX.alloc hX.size _)) (brf.alloc nlr _) (λx hx=>(by rw[List.mem_singleton] at hx;omega)) ⟨t.heap.size,rfl,rfl,hX.size,(Blk.mk' (cur:=#[.int .i64 0,.int .i64 0,.int .i64 0,.int .i64 0]) rfl rfl).congr (λj hj=>by match j,hj with|0,_=>rfl|1,_=>rfl|2,_=>rfl|3,_=>rfl)⟩
 case done =>
  intro V G t hS hD hA;have bs:=(show V 13 = .int .i64 D/\G 13=[] from hD 13 (by simp)).1;have av:∃B,V 14 = .pointer (some ⟨B,0,none⟩)/\G 14=[B]/\wr.heap.size<=B/\Blk t B 59 4 (λ_ => .int .i64 0):=hD 14 (by simp);obtain⟨B4,av,-,bz,hY⟩:=av;have hX:=ae hS;clear hS hD hA r0 r1 r2 r3 r4 r5 r6;have cs:=hY.lt;have f0:=hY.frozen 0;have f1:=hY.frozen 1;have f2:=hY.frozen 2;have f3:=hY.frozen 3;have e0:=hY.k 0;have e1:=hY.k 1;have e2:=hY.k 2;have e3:=hY.k 3;simp only[ap,az,Qvz,Qwq,Qvx,Act.put,Qvq,Qwx,Qwz,bs,av];refine cf 15 rfl ?_;go_wp2_with fail;obtain⟨W5,bw,bb,ai⟩:=Li hY hX bz m;rw[bw];refine⟨gy.no (Qqx bb),?_⟩;refine cf 16 rfl ?_;go_wp2_with fail;refine⟨gy.yes,?_⟩;refine NoPanic.normal ?_;have aw:=H.trans (bb.mono H.size);have t0:W5.cell? ⟨B4,0,none⟩=some (.int .i64 m.o):=ai.cell (j:=0) (by simp);have t1:W5.cell? ⟨B4,1,none⟩=some (.int .i64 m.l):=ai.cell (j:=1) (by simp);have t2:W5.cell? ⟨B4,2,none⟩=some (.int .i64 m.b):=ai.cell (j:=2) (by simp);have t3:W5.cell? ⟨B4,3,none⟩=some (.int .i64 m.n):=ai.cell (j:=3) (by simp);have ea:=ai.lt;clear bb bw ai hX hY f0 f1 f2 f3 e0 e1 e2 e3 bs av cs bz z1 c1 l2 hb cc H;obtain⟨U,z1,W,c1,l2,hb,E,al,c2⟩:=HL.out W5 aw;clear W al c2 z1;have q:Q=0\/Q=1\/Q=2:=by omega
  have S:Hid (∀b,Q=0->(m.b+m.n+D==0)=b->cp Q m D = !b):=λb h y=>by rw[h,wL0 k1 k2 k3,y]
  have T:Hid (∀b,Q=1->(m.b+m.n+D==m.l)=b->cp Q m D = !b):=λb h y=>by rw[h,wL1,y]
  have M:Hid (∀b c,Q=2->(m.b+m.n+D==m.l)=b->(D==0)=c->cp Q m D=(!b || !c)):=λb c h y h3=>by rw[h,wL2,y,h3]
  generalize cp Q m D=WL at *
  rcases q with q|q|q
  .cases y:(m.b+m.n+D==0)
   .have A:Hid (ji p s=false):=Y.out (S.out _ q y);have n2:(m.b+m.n+D !=0)=true:=by rw[bne,y];rfl
    rw[q] at U;clear S T M Y HU q;go_wp2_with fail;go_ret;exact⟨by rw[A.out];rfl,E⟩
   have A:=HU.out (S.out _ q y);have n2:(m.b+m.n+D !=0)=false:=by rw[bne,y];rfl
   have aj:Hid _:=A;rw[q] at U;clear S T M Y HU q A;go_wp2_with fail;go_roundw
   case rel=>exact⟨j+1,by omega,by go_num,aj.out,aw⟩
   case measure=>simp[intOf];omega
  .cases y:(m.b+m.n+D==m.l)
   .have A:Hid (ji p s=false):=Y.out (T.out _ q y);have n2:(m.b+m.n+D !=m.l)=true:=by rw[bne,y];rfl
    rw[q] at U;clear S T M Y HU q;go_wp2_with fail;go_ret;exact⟨by rw[A.out];rfl,E⟩
   have A:=HU.out (T.out _ q y);have n2:(m.b+m.n+D !=m.l)=false:=by rw[bne,y];rfl
   have aj:Hid _:=A;rw[q] at U;clear S T M Y HU q A;go_wp2_with fail;go_roundw
   case rel=>exact⟨j+1,by omega,by go_num,aj.out,aw⟩
   case measure=>simp[intOf];omega
  cases y:(m.b+m.n+D==m.l)
  .have A:Hid (ji p s=false):=Y.out (M.out _ _ q y rfl);have n2:(m.b+m.n+D !=m.l)=true:=by rw[bne,y];rfl
   rw[q] at U;clear S T M Y HU q;go_wp2_with fail;go_ret;exact⟨by rw[A.out];rfl,E⟩
  cases h3:(D==0)
  .have A:Hid (ji p s=false):=Y.out (M.out _ _ q y h3);have n2:(m.b+m.n+D !=m.l)=false:=by rw[bne,y];rfl
   have n3:(D !=0)=true:=by rw[bne,h3];rfl
   rw[q] at U;clear S T M Y HU q;go_wp2_with fail;go_ret;exact⟨by rw[A.out];rfl,E⟩
  have A:=HU.out (M.out _ _ q y h3);have n2:(m.b+m.n+D !=m.l)=false:=by rw[bne,y];rfl
  have n3:(D !=0)=false:=by rw[bne,h3];rfl
  have aj:Hid _:=A;rw[q] at U;clear S T M Y HU q A;go_wp2_with fail;go_roundw
  case rel=>exact⟨j+1,by omega,by go_num,aj.out,aw⟩
  case measure=>simp[intOf];omega
structure af(s t:St):Prop where
 on:s.on.n=t.on.n/\∀i,i<s.on.n->(s.on.r i).n=(t.on.r i).n/\∀j,j<(s.on.r i).n->(s.on.r i).z j=(t.on.r i).z j
 os:s.os.n=t.os.n/\∀i,i<s.os.n->(s.os.z i).k=(t.os.z i).k/\(s.os.z i).ls.n=(t.os.z i).ls.n/\∀j,j<(s.os.z i).ls.n->(s.os.z i).ls.z j=(t.os.z i).ls.z j
 hs:s.hs.n=t.hs.n/\∀j,j<s.hs.n->s.hs.z j=t.hs.z j
 ms:s.ms.n=t.ms.n/\∀j,j<s.ms.n->s.ms.z j=t.ms.z j
 si:s.si.n=t.si.n/\∀j,j<s.si.n->s.si.z j=t.si.z j
 so:s.so.n=t.so.n/\∀j,j<s.so.n->s.so.z j=t.so.z j
 sf:s.sf.n=t.sf.n/\∀j,j<s.sf.n->s.sf.z j=t.sf.z j
def Boxed(w:World)(B:Nat)(s:St):Prop :=
 B<w.heap.size/\w.cell? ⟨B,0,none⟩=some (.slice s.on.a s.on.n s.on.c)/\w.cell? ⟨B,1,none⟩=some (.slice s.os.a s.os.n s.os.c)/\w.cell? ⟨B,2,none⟩=some (.slice s.hs.a s.hs.n s.hs.c) /\
  w.cell? ⟨B,3,none⟩=some (.slice s.ms.a s.ms.n s.ms.c)/\w.cell? ⟨B,4,none⟩=some (.slice s.si.a s.si.n s.si.c)/\w.cell? ⟨B,5,none⟩=some (.slice s.so.a s.so.n s.so.c)/\w.cell? ⟨B,6,none⟩=some (.slice s.sf.a s.sf.n s.sf.c)
theorem Boxed.of{B:Nat}(h:Blk w B e 7 (λj=>s.cells.getD j default)):Boxed w B s :=
 ⟨h.lt,h.k 0,h.k 1,h.k 2,h.k 3,h.k 4,h.k 5,h.k 6⟩
theorem Jq{A:World}{B:Nat}(l:Blk w B e 2 f)(d:Below A.heap.size A w)(c:A.heap.size<=B)(k:Int)(v:Value):
  ∃W,(w.setCell ⟨B,0,none⟩ (.int .i64 k)).setCell ⟨B,1,none⟩ v=W/\Below A.heap.size A W/\Blk W B e 2 (λj=>(#[.int .i64 k,v]:Array Value).getD j default)/\∀g t n f',g≠B->Blk w g t n f'->Blk W g t n f' :=
 ⟨_,rfl,(d.setCell (p:=⟨B,0,none⟩) c _).setCell (p:=⟨B,1,none⟩) c _,((l.set 0 _).set 1 _).congr (λj i=>by match j,i with|0,_=>rfl|1,_=>rfl),
  λg t n f' b h=>(h.other (a:=⟨B,0,none⟩) b _).other (a:=⟨B,1,none⟩) b _⟩
theorem uy(s t:St)(w:World)(hs:s.At w)(ht:t.At w)(h:af s t)(dw:s.os.n<=1000)(ds:s.ms.n<=1000)(bm:∀i,i<s.os.n->(s.os.z i).ls.n<=1000):
  Calls prog 13 #[s.val,t.val] w λe w'=>e = .returned (.bool true)/\Below w.heap.size w w':=by
 obtain⟨P,hW,ar,X0,Y0⟩:∃W,((w.alloc (.cells s.cells 31)).alloc (.cells t.cells 31))=W/\Below w.heap.size w W/\Blk W w.heap.size 31 7 (λj=>s.cells.getD j default)/\Blk W (w.heap.size+1) 31 7 (λj=>t.cells.getD j default):=
  ⟨_,rfl,ix _ _ _,(Blk.mk' rfl rfl).alloc _,Blk.mk' (by simp) rfl⟩
 have HC:Hid (∀b,Below P.heap.size P b->Boxed b w.heap.size s/\Boxed b (w.heap.size+1) t/\s.At b/\t.At b/\Below w.heap.size w b):=λb h=>⟨Boxed.of (X0.below h),Boxed.of (Y0.below h),(hs.below ar).below h,(ht.below ar).below h,ar.trans (h.mono ar.size)⟩;have HW:Hid ((w.alloc (.cells #[.slice s.on.a s.on.n s.on.c,.slice s.os.a s.os.n s.os.c,.slice s.hs.a s.hs.n s.hs.c,.slice s.ms.a s.ms.n s.ms.c,.slice s.si.a s.si.n s.si.c,.slice s.so.a s.so.n s.so.c,.slice s.sf.a s.sf.n s.sf.c] 31)).alloc (.cells #[.slice t.on.a t.on.n t.on.c,.slice t.os.a t.os.n t.os.c,.slice t.hs.a t.hs.n t.hs.c,.slice t.ms.a t.ms.n t.ms.c,.slice t.si.a t.si.n t.si.c,.slice t.so.a t.so.n t.so.c,.slice t.sf.a t.sf.n t.sf.c] 31)=P):=hW;have y:=hid h;have dt:=hs.os.le;have bv:=hs.os.cap;have dq:=hs.ms.le;have b6:=hs.ms.cap;have dm:=ht.os.le;have bd:=ht.os.cap;have di:=ht.ms.le;have ba:=ht.ms.cap;unfold maxLen at bv b6 bd ba;have n1:((s.os.n:Int) !=(t.os.n:Int))=false:=by rw[h.os.1];simp
 have n2:((s.ms.n:Int) !=(t.ms.n:Int))=false:=by rw[h.ms.1];simp
 have cy:=hid bm;clear hW X0 Y0 hs ht h bm;unfold St.val;go_enter func13,ntmps13;go_wp2_with fail;rw[HW.out];obtain⟨X,Y,l,f,o⟩:=HC.out P brf;refine(Rs s.on t.on P l.on f.on y.out.on.1 y.out.on.2).mono ?_;rintro e w1 ⟨rfl,m⟩;clear X Y l f o HW;obtain⟨⟨l1,A,c1,c2,c3,c4,c5,c6⟩,⟨l2,D,u,E,M,H,J,L⟩,l,f,o⟩:=HC.out w1 m;go_wp2_with fail;refine(Q3 s.hs t.hs w1 l.hs f.hs y.out.hs.1 y.out.hs.2).mono ?_;rintro e w2 ⟨rfl,q⟩;have m:=m.trans (q.mono m.size);clear l1 A c1 c2 c3 c4 c5 c6 l2 D u E M H J L l f o q;obtain⟨⟨l1,A,c1,c2,c3,c4,c5,c6⟩,⟨l2,D,u,E,M,H,J,L⟩,l,f,o⟩:=HC.out w2 m;go_wp2_with fail;refine(Aq s.si t.si w2 l.si f.si y.out.si.1 y.out.si.2).mono ?_;rintro e w3 ⟨rfl,q⟩;have m:=m.trans (q.mono m.size);clear l1 A c1 c2 c3 c4 c5 c6 l2 D u E M H J L l f o q;obtain⟨⟨l1,A,c1,c2,c3,c4,c5,c6⟩,⟨l2,D,u,E,M,H,J,L⟩,l,f,o⟩:=HC.out w3 m;go_wp2_with fail;refine(Aq s.so t.so w3 l.so f.so y.out.so.1 y.out.so.2).mono ?_;rintro e w4 ⟨rfl,q⟩;have m:=m.trans (q.mono m.size);clear l1 A c1 c2 c3 c4 c5 c6 l2 D u E M H J L l f o q;obtain⟨⟨l1,A,c1,c2,c3,c4,c5,c6⟩,⟨l2,D,u,E,M,H,J,L⟩,l,f,o⟩:=HC.out w4 m;go_wp2_with fail;refine(Aq s.sf t.sf w4 l.sf f.sf y.out.sf.1 y.out.sf.2).mono ?_;rintro e w5 ⟨rfl,q⟩;have m:=m.trans (q.mono m.size);clear l1 A c1 c2 c3 c4 c5 c6 l2 D u E M H J L l f o q;go_wp2_with fail
 go_loopw [5] (λi b=>∃k:Nat,k<=s.os.n/\i = .int .i64 k/\Below P.heap.size P b) (λi _=>s.os.n-(intOf i).toNat)
 case atStart=>exact⟨0,Qxz _,rfl,m⟩
 clear m;obtain⟨i,hi,rfl,m⟩:=hrel;obtain⟨⟨l1,A,c1,c2,c3,c4,c5,c6⟩,⟨l2,D,u,E,M,H,J,L⟩,l,f,o⟩:=HC.out wr m;by_cases ai:i<s.os.n;rotate_left
 .go_wp2_with fail;clear l1 A c1 c2 c3 c4 c5 c6 l2 D u E M H J L l f o hi ai
  go_loopw [9] (λi0 b=>∃k:Nat,k<=s.ms.n/\i0 = .int .i64 k/\Below P.heap.size P b) (λi0 _=>s.ms.n-(intOf i0).toNat)
  case atStart=>exact⟨0,Qxz _,rfl,m⟩
  clear m;obtain⟨j,hj,rfl,m⟩:=hrel;obtain⟨⟨l1,A,c1,c2,c3,c4,c5,c6⟩,⟨l2,D,u,E,M,H,J,L⟩,l,f,o⟩:=HC.out wr m;by_cases Q:j<s.ms.n
  .have ak:j<t.ms.n:=by rw[<-y.out.ms.1];exact Q
   have qj:(0:Int)<=(j:Int):=by omega
   obtain⟨b3,o3,ag,cs,y0,y1,y2,y3⟩:=l.ms.hds j Q;obtain⟨b4,o4,ah,cn,x0,x1,x2,x3⟩:=f.ms.hds j ak;rw[<-y.out.ms.2 j Q] at x0 x1 x2 x3;rw[ag] at c3;rw[ah] at M
   generalize s.ms.z j=Z at *
   clear ag ah l f A c1 c2 c4 c5 c6 D u E H J L;go_wp2_with fail
   go_quiet (fail)
   go_wp2_with fail;go_roundw
   case rel=>exact⟨j+1,by omega,by go_num,below_drewN m _⟩
   case measure=>simp[intOf];omega
  clear l f;go_wp2_with fail;go_ret;exact⟨rfl,o⟩
 have bq:i<t.os.n:=by rw[<-y.out.os.1];exact ai
 have qi:(0:Int)<=(i:Int):=by omega
 obtain⟨b1,o1,bn,dn,y0,y1,hl⟩:=l.os.ods i ai;obtain⟨b2,o2,bk,dr,x0,x1,hm⟩:=f.os.ods i bq;obtain⟨e1,e2,e3⟩:=y.out.os.2 i ai;have dv:=cy.out i ai;rw[bn] at c1;rw[bk] at u;have r0:=Qqq c1;have r1:=Qqq u;have r2:=Qqq y0;have r3:=Qqq y1;rw[<-e1] at x0;have r4:=Qqq x0;have r5:=Qqq x1;have a3:=qa2 hl hm;have HE:=qa2 e2 e3;clear bn bk hl hm e1 e2 e3 A c2 c3 c4 c5 c6 D E M H J L l f y0 y1 x0 x1 u
 generalize (s.os.z i).k=KD at *
 generalize (s.os.z i).ls=F at *
 generalize (t.os.z i).ls=LT at *
 go_wp2_with fail;refine fh (λw'=>∃p:Regrown,w'=grow (redrawn wr p.d) p.os) (List.range 10) [10,11] [(false,12),(true,13)] (Qqx (brf.drew)) ?_;rw[show List.range 10=[0,1,2,3,4,5,6,7,8,9] from rfl];simp only[du,Qyq,Xqq,Qyx,Qyz,Xqz,Xqx]
 repeat(go_big_quiet_step(fail))
 refine Qqz ?_;refine⟨λj v g b=>∃B,g=[B]/\v = .pointer (some ⟨B,0,none⟩)/\wr.heap.size<=B/\Blk b B 57 2 (λj=>(#[.int .i64 0,.slice .none 0 0]:Array Value).getD j default),Qjx ⟨?zm,Qjx ⟨?zm2,Qjq _⟩⟩,Qjx ⟨?zl,Qjx ⟨?zl2,Qjq _⟩⟩,Qjx ⟨?zs10,Qjx ⟨?zs11,Qjq _⟩⟩,?zdone⟩
 case zm|zm2=>intro v g w w' m h;obtain⟨B,h0,h1,h2,h3⟩:=h;exact⟨B,h0,h1,h2,h3.below m⟩
 case zl|zl2=>intro v g w h;obtain⟨B,rfl,h1,h2,h3⟩:=h;intro x hx;rw[List.mem_singleton] at hx;subst hx;exact h3.lt
 case zs10 =>
  intro V G b K hS hd hK;have U:=ae hS;refine aq 10 rfl ?_;simp only[ap,az,Qvz,Qwq,Qvx,Act.put,Qvq,Qwx,Qwz] at hK ⊢;go_wp2_with fail;exact hK _ [b.heap.size] _ (Qqx (U.alloc U.size _)) (brf.alloc nlr _) (λx hx=>by rw[List.mem_singleton] at hx;omega) ⟨b.heap.size,rfl,rfl,U.size,Blk.mk' rfl rfl⟩
 case zs11 =>
  intro V G b K hS hd hK;have U:=ae hS;refine aq 11 rfl ?_;simp only[ap,az,Qvz,Qwq,Qvx,Act.put,Qvq,Qwx,Qwz] at hK ⊢;go_wp2_with fail;exact hK _ [b.heap.size] _ (Qqx (U.alloc U.size _)) (brf.alloc nlr _) (λx hx=>by rw[List.mem_singleton] at hx;omega) ⟨b.heap.size,rfl,rfl,U.size,Blk.mk' rfl rfl⟩
 case zdone =>
  intro V G b hS hD hA;obtain⟨B6,g6,h6,m6,k6⟩:=hD 10 (by simp);obtain⟨B7,g7,h7,m7,k7⟩:=hD 11 (by simp);have bi:B6≠B7:=λe=>hA 10 (by simp) 11 (by simp) (by decide) B6 (by rw[g6];simp) (by rw[g7,e];simp);have U:=ae hS;clear hS hD hA g6 g7 r0 r1 r2 r3 r4 r5;have f0:=k6.frozen 0;have f1:=k6.frozen 1;have e0:=k6.k 0;have e1:=k6.k 1;have a2:=k6.lt;simp only[ap,az,Qvz,Qwq,Qvx,Act.put,Qvq,Qwx,Qwz,h6,h7];refine cf 12 rfl ?_;go_wp2_with fail;obtain⟨W5,bl,a7,bh,T⟩:=Jq k6 U m6 KD (.slice F.a F.n F.c);have k7:=T _ _ _ _ bi.symm k7;rw[bl];refine⟨gy.no (Qqx a7),?_⟩;clear bl U k6 T f0 f1 e0 e1 a2 h6 h7;have f0:=k7.frozen 0;have f1:=k7.frozen 1;have e0:=k7.k 0;have e1:=k7.k 1;have a2:=k7.lt;refine cf 13 rfl ?_;go_wp2_with fail;obtain⟨W6,bo,av,au,T⟩:=Jq k7 a7 m7 KD (.slice LT.a LT.n LT.c);have ao:=T _ _ _ _ bi bh;rw[bo];refine⟨gy.yes,?_⟩;refine NoPanic.normal ?_;have bj:=m.trans (av.mono m.size);have a6:=qa2 (a3.out.1.below av) (a3.out.2.below av);clear bo a7 av k7 T f0 f1 e0 e1 a2 bh a3 m m6 m7;have HD:Hid (∀b,Below W6.heap.size W6 b->(b.cell? ⟨B6,0,none⟩=some (.int .i64 KD)/\b.cell? ⟨B6,1,none⟩=some (.slice F.a F.n F.c)/\B6<b.heap.size)/\(b.cell? ⟨B7,0,none⟩=some (.int .i64 KD)/\b.cell? ⟨B7,1,none⟩=some (.slice LT.a LT.n LT.c)/\B7<b.heap.size)/\F.At b/\LT.At b/\Below P.heap.size P b):=
   λb h=>⟨⟨(ao.below h).k 0,(ao.below h).k 1,(ao.below h).lt⟩,⟨(au.below h).k 0,(au.below h).k 1,(au.below h).lt⟩,a6.out.1.below h,a6.out.2.below h,bj.trans (h.mono bj.size)⟩
  clear ao au a6;obtain⟨⟨p0,p1,p2⟩,⟨q0,q1,q2⟩,S,r,a5⟩:=HD.out W6 brf;have dp:=S.le;have bu:=S.cap;have dk:=r.le;have bg:=r.cap;unfold maxLen at bu bg;have n3:((F.n:Int) !=(LT.n:Int))=false:=by rw[HE.out.1];simp
  clear S r a5;go_wp2_with fail;clear p0 p1 p2 q0 q1 q2
  go_loopw [8] (λi0 b=>∃k:Nat,k<=F.n/\i0 = .int .i64 k/\Below W6.heap.size W6 b) (λi0 _=>F.n-(intOf i0).toNat)
  case atStart=>exact⟨0,Qxz _,rfl,Below.refl _ _⟩
  obtain⟨j,hj,rfl,m⟩:=hrel;obtain⟨⟨p0,p1,p2⟩,⟨q0,q1,q2⟩,S,r,a5⟩:=HD.out wr m;by_cases Q:j<F.n
  .have ak:j<LT.n:=by rw[<-HE.out.1];exact Q
   have qj:(0:Int)<=(j:Int):=by omega
   obtain⟨b3,o3,ag,cs,y0,y1,y2,y3⟩:=S.hds j Q;obtain⟨b4,o4,ah,cn,x0,x1,x2,x3⟩:=r.hds j ak;rw[<-HE.out.2 j Q] at x0 x1 x2 x3;rw[ag] at p1;rw[ah] at q1
   generalize F.z j=Z at *
   clear ag ah S r p0 q0;go_wp2_with fail
   go_quiet (fail)
   go_wp2_with fail;go_roundw
   case rel=>exact⟨j+1,by omega,by go_num,below_drewN m _⟩
   case measure=>simp[intOf];omega
  clear S r;go_wp2_with fail;go_roundw
  case rel=>exact⟨i+1,by omega,by go_num,a5⟩
  case measure=>simp[intOf];omega
theorem Tg(h:¬fa p s.on=0):ag p s=fa p s.on:=by unfold ag;rw[if_neg h]
theorem Ut(h:fa p s.on=0)(a:gh s=true):ag p s=2:=by unfold ag;rw[if_pos h,if_pos a]
theorem Cq(h:fa p s.on=0)(b:gh s=false)(a:jo p s=true\/gt p s=true\/kt p s=true\/fs p s=true):ag p s=1:=by
 unfold ag;rw[if_pos h,b,if_neg (by decide),if_pos (by rcases a with a|a|a|a<;>simp[a])]
theorem Bh(h:fa p s.on=0)(e:gh s=false)(b:jo p s=false)(a:gt p s=false)(d:kt p s=false)(c:fs p s=false):ag p s=if lq p s||jn s then 7 else 0:=by
 unfold ag;rw[if_pos h,e,if_neg (by decide),b,a,d,c,if_neg (by decide)]
theorem lg(p:Pl)(s:St)(w:World)(S:p.At w)(hs:s.At w):
  Calls prog 16 #[p.val,s.val] w λe U=>e = .returned (.int .i64 (ag p s))/\Below w.heap.size w U:=by
 obtain⟨E,K,J,L⟩:=Jr w p s;have o:=Hu S hs J L;have T:=hid K;clear K L;unfold Pl.val St.val;go_enter func16,ntmps16;go_wp2_with fail;rw[T.out];have a:Below E.heap.size E E:=Below.refl _ _;obtain⟨X,f,c,b⟩:=o.out E a;refine(ze p s.on E f c.on).mono ?_;rintro e Q ⟨rfl,d⟩;have a:=a.trans (d.mono a.size);clear d X f c b;obtain⟨X,f,c,b⟩:=o.out Q a;by_cases F:fa p s.on=0;rotate_left
 .have V:Hid (ag p s=fa p s.on):=Tg F;go_wp2_with fail;go_ret;exact⟨by rw[V.out];rfl,b⟩
 have n:=hid F;rw[F];clear F;obtain⟨⟨h,j,l⟩,k,i,c1,c2,c3,c4,c5,c6⟩:=X;go_wp2_with fail;refine(Uu s _ c).mono ?_;rintro e w2 ⟨rfl,d⟩;have g:=a.trans (d.mono a.size);clear h j l k i c1 c2 c3 c4 c5 c6 f c b a d;have a:=g;clear g;obtain⟨X,f,c,b⟩:=o.out w2 a;cases t:gh s;rotate_left
 .have m:=hid t;clear t;go_wp2_with fail;go_ret;exact⟨by rw[Ut n.out m.out];rfl,b⟩
 have m:=hid t;clear t;obtain⟨⟨h,j,l⟩,k,i,c1,c2,c3,c4,c5,c6⟩:=X;go_wp2_with fail;refine(Q8 p s _ f c).mono ?_;rintro e w3 ⟨rfl,d⟩;have g:=a.trans (d.mono a.size);clear h j l k i c1 c2 c3 c4 c5 c6 f c b a d;have a:=g;clear g;obtain⟨X,f,c,b⟩:=o.out w3 a;cases u:jo p s;rotate_left
 .have A:=hid u;clear u;go_wp2_with fail;go_ret;exact⟨by rw[Cq n.out m.out (.inl A.out)];rfl,b⟩
 have A:=hid u;clear u;obtain⟨⟨h,j,l⟩,k,i,c1,c2,c3,c4,c5,c6⟩:=X;go_wp2_with fail;refine(Rz p s _ f c).mono ?_;rintro e w4 ⟨rfl,d⟩;have g:=a.trans (d.mono a.size);clear h j l k i c1 c2 c3 c4 c5 c6 f c b a d;have a:=g;clear g;obtain⟨X,f,c,b⟩:=o.out w4 a;cases r:gt p s;rotate_left
 .have B:=hid r;clear r;go_wp2_with fail;go_ret;exact⟨by rw[Cq n.out m.out (.inr (.inl B.out))];rfl,b⟩
 have B:=hid r;clear r;obtain⟨⟨h,j,l⟩,k,i,c1,c2,c3,c4,c5,c6⟩:=X;go_wp2_with fail;refine(R0 p s _ f c).mono ?_;rintro e w5 ⟨rfl,d⟩;have g:=a.trans (d.mono a.size);clear h j l k i c1 c2 c3 c4 c5 c6 f c b a d;have a:=g;clear g;obtain⟨X,f,c,b⟩:=o.out w5 a;cases v:kt p s;rotate_left
 .have z:=hid v;clear v;go_wp2_with fail;go_ret;exact⟨by rw[Cq n.out m.out (.inr (.inr (.inl z.out)))];rfl,b⟩
 have z:=hid v;clear v;obtain⟨⟨h,j,l⟩,k,i,c1,c2,c3,c4,c5,c6⟩:=X;go_wp2_with fail;refine(T4 p s _ f c).mono ?_;rintro e Y ⟨rfl,d⟩;have g:=a.trans (d.mono a.size);clear h j l k i c1 c2 c3 c4 c5 c6 f c b a d;have a:=g;clear g;obtain⟨X,f,c,b⟩:=o.out Y a;cases q:fs p s;rotate_left
 .have D:=hid q;clear q;go_wp2_with fail;go_ret;exact⟨by rw[Cq n.out m.out (.inr (.inr (.inr D.out)))];rfl,b⟩
 have D:=hid q;clear q;have M:cx p s:=formed n.out m.out A.out B.out z.out D.out;obtain⟨⟨h,j,l⟩,k,i,c1,c2,c3,c4,c5,c6⟩:=X;go_wp2_with fail;refine(Pr p s _ f c M).mono ?_;rintro e W ⟨rfl,d⟩;have g:=a.trans (d.mono a.size);clear h j l k i c1 c2 c3 c4 c5 c6 f c b a d;have a:=g;clear g;obtain⟨X,f,c,b⟩:=o.out W a;cases x:lq p s;rotate_left
 .have G:=hid x;clear x;go_wp2_with fail;go_ret;exact⟨by rw[Bh n.out m.out A.out B.out z.out D.out,G.out];rfl,b⟩
 have G:=hid x;clear x;obtain⟨⟨h,j,l⟩,k,i,c1,c2,c3,c4,c5,c6⟩:=X;go_wp2_with fail;refine(Om p s _ c M).mono ?_;rintro e P ⟨rfl,d⟩;have g:=a.trans (d.mono a.size);clear h j l k i c1 c2 c3 c4 c5 c6 f c b a d;have a:=g;clear g;obtain⟨X,f,c,b⟩:=o.out P a;cases y:jn s
 .have H:=hid y;clear y;go_wp2_with fail;go_ret;exact⟨by rw[Bh n.out m.out A.out B.out z.out D.out,G.out,H.out];rfl,b⟩
 have H:=hid y;clear y;go_wp2_with fail;go_ret;exact⟨by rw[Bh n.out m.out A.out B.out z.out D.out,H.out,Bool.or_true];rfl,b⟩
def lv(p:Pl)(s:St)(bin good:Int):Int:=if ag p s=0 then(if inB bin 0 ((p.nb:Int)-1)&&inB good 0 ((p.ns:Int)-1) then 0 else 3) else ag p s
def tg(p:Pl)(s:St)(bin good:Int):Int:=if lv p s bin good=0 then aw s bin.toNat good.toNat else 0
def js(p:Pl)(s:St)(b:Int):Nat->Int
 | 0=>0
 | k+1=>js p s b k+(if (s.ms.z k).b=b then(s.ms.z k).n*p.zs (s.ms.z k).o.toNat else 0)
def gj(p:Pl)(s:St)(b:Nat):Int:=(p.zb b).room-ff (s.on.r b).z p.zs p.ns-js p s b s.ms.n
def t9(p:Pl)(s:St)(bin:Int):Int:=if ag p s=0 then vw p s.on bin else ag p s
def A7(p:Pl)(s:St)(bin:Int):Int:=if t9 p s bin=0 then gj p s bin.toNat else 0
theorem Oi{b:Int}{k:Nat}(h:(s.ms.z k).b=b):js p s b (k+1)=js p s b k+(s.ms.z k).n*p.zs (s.ms.z k).o.toNat:=by simp only[js];rw[if_pos h]
theorem Lp{b:Int}{k:Nat}(h:¬(s.ms.z k).b=b):js p s b (k+1)=js p s b k:=by simp only[js];rw[if_neg h,Int.add_zero]
theorem Fi{p:Pl}{s:St}(f:cx p s)(b:Int):∀k,k<=s.ms.n->0<=js p s b k/\js p s b k<=1800*k
 | 0,_=>by simp[js]
 | k+1,hk=>by
  have d:=Fi f b k (by omega);have c:=rv (f.move k (by omega));have:=Eg (a:=(s.ms.z k).n) (b:=p.zs (s.ms.z k).o.toNat) ⟨by omega,c.2.2.2.2.2⟩ (f.sh.pl.sizes _ (by omega));simp only[js]
  split<;>omega
theorem Im(p:Pl)(s:St)(bin good:Int)(w:World)(h:p.At w)(hs:s.At w):
  Calls prog 105 #[p.val,s.val,.int .i64 bin,.int .i64 good] w λe B=>e = .returned (.tuple #[.int .i64 (tg p s bin good),.int .i64 (lv p s bin good)])/\Below w.heap.size w B:=by
 obtain⟨x,t,m,v⟩:=Jr w p s;have q:=Hu h hs m v;have A:=hid t;have G:p.nb<=maxLen:=Qzx h.leb h.capb;have F:p.ns<=maxLen:=Qzx h.les h.caps;clear t v;unfold Pl.val St.val;go_enter func105,ntmps105;go_wp2_with fail;rw[A.out];obtain⟨X,i,d,a⟩:=q.out x brf;refine(lg p s x i d).mono ?_;rintro e r ⟨rfl,z⟩;clear X i d a;obtain⟨X,i,d,a⟩:=q.out r z;obtain⟨⟨H,K,P⟩,M,J,c1,c2,c3,c4,c5,c6⟩:=X;by_cases f:ag p s=0;rotate_left
 .have c:Hid (lv p s bin good=ag p s/\tg p s bin good=0):=by
   have e:lv p s bin good=ag p s:=by unfold lv;rw[if_neg f]
   exact⟨e,by unfold tg;rw[e,if_neg f]⟩
  go_wp2_with fail
  go_ret2
  exact⟨by rw[c.out.1,c.out.2];rfl,a⟩
 have y:Hid (ar p s):=dp f;have l:=hid f;rw[f];clear f;cases k:inB bin 0 ((p.nb:Int)-1)
 .have c:Hid (lv p s bin good=3/\tg p s bin good=0):=by
   have e:lv p s bin good=3:=by unfold lv;rw[if_pos l.out,k];rfl
   exact⟨e,by unfold tg;rw[e];rfl⟩
  go_wp2_with(go_at_call 71;refine ah (dm _ _ _ (by assumption)) ?_)
  go_ret2
  exact⟨by rw[c.out.1,c.out.2];rfl,a⟩
 cases j:inB good 0 ((p.ns:Int)-1)
 .have c:Hid (lv p s bin good=3/\tg p s bin good=0):=by
   have e:lv p s bin good=3:=by unfold lv;rw[if_pos l.out,j,Bool.and_false];rfl
   exact⟨e,by unfold tg;rw[e];rfl⟩
  go_wp2_with(go_at_call 71;refine ah (dm _ _ _ (by assumption)) ?_)
  go_ret2
  exact⟨by rw[c.out.1,c.out.2];rfl,a⟩
 have c:Hid (lv p s bin good=0/\tg p s bin good=aw s bin.toNat good.toNat):=by
  have e:lv p s bin good=0:=by unfold lv;rw[if_pos l.out,k,j];rfl
  exact⟨e,by unfold tg;rw[e];rfl⟩
 obtain⟨b,E⟩:=Qzz (au k).1;obtain⟨g,D⟩:=Qzz (au j).1;have n:b<p.nb:=by have:=(au k).2;omega
 have u:g<p.ns:=by have:=(au j).2;omega
 subst E D;go_wp2_with(go_at_call 71;refine ah (dm _ _ _ (by assumption)) ?_);refine(Pt p s b g r d y.out.fm n u).mono ?_;rintro e L ⟨rfl,o⟩;go_wp2_with fail
 go_ret2
 exact⟨by rw[c.out.1,c.out.2];rfl,a.trans (o.mono a.size)⟩
theorem Rm(p:Pl)(s:St)(bin:Int)(w:World)(hp:p.At w)(hs:s.At w):
  Calls prog 88 #[p.val,s.val,.int .i64 bin] w λe w'=>e = .returned (.tuple #[.int .i64 (A7 p s bin),.int .i64 (t9 p s bin)])/\Below w.heap.size w w':=by
 obtain⟨F,hW,J,X0⟩:=Jr w p s;have Q:=Hu hp hs J X0;have HW:=hid hW;clear hW X0;unfold Pl.val St.val;go_enter func88,ntmps88;go_wp2_with fail;rw[HW.out];obtain⟨X,c,f,m⟩:=Q.out F brf;refine(lg p s F c f).mono ?_;rintro e w1 ⟨rfl,t⟩;clear X c f m;obtain⟨X,c,f,m⟩:=Q.out w1 t;obtain⟨⟨G,D,A⟩,T,c0,c1,c2,c3,c4,c5,c6⟩:=X;by_cases E:ag p s=0;rotate_left
 .have y:Hid (t9 p s bin=ag p s/\A7 p s bin=0):=by
   have e:t9 p s bin=ag p s:=by unfold t9;rw[if_neg E]
   exact⟨e,by unfold A7;rw[e,if_neg E]⟩
  go_wp2_with fail
  go_ret2
  exact⟨by rw[y.out.1,y.out.2];rfl,m⟩
 have q:Hid (ar p s):=dp E;have H0:=hid E;rw[E];clear E;go_wp2_with fail;refine(aas p s.on bin w1 c f.on).mono ?_;rintro e w2 ⟨rfl,ab⟩;have K:=t.trans (ab.mono t.size);clear ab t G D A T c0 c1 c2 c3 c4 c5 c6 c f m;obtain⟨X,c,f,m⟩:=Q.out w2 K;obtain⟨⟨G,D,A⟩,T,c0,c1,c2,c3,c4,c5,c6⟩:=X;by_cases o:vw p s.on bin=0;rotate_left
 .have y:Hid (t9 p s bin=vw p s.on bin/\A7 p s bin=0):=by
   have e:t9 p s bin=vw p s.on bin:=by unfold t9;rw[if_pos H0.out]
   exact⟨e,by unfold A7;rw[e,if_neg o]⟩
  go_wp2_with fail
  go_ret2
  exact⟨by rw[y.out.1,y.out.2];rfl,m⟩
 have L:inB bin 0 ((s.on.n:Int)-1)=true:=by
  cases hq:inB bin 0 ((s.on.n:Int)-1)
  .unfold vw at o;rw[q.out.fm.sh0,hq] at o;simp at o
  rfl
 have ap:=q.out.fm.sh.n;obtain⟨b,hb⟩:=Qzz (au L).1;have Y:b<p.nb:=by have:=(au L).2;omega
 have y:Hid (t9 p s bin=0/\A7 p s bin=gj p s b/\H9 p s.on bin=ff (s.on.r b).z p.zs p.ns):=by
  have e:t9 p s bin=0:=by unfold t9;rw[if_pos H0.out,o]
  exact⟨e,by unfold A7;rw[e,if_pos rfl,hb];rfl,by unfold H9;rw[o,hb];rfl⟩
 rw[o,y.out.2.2];have bz:=yh (z:=(s.on.r b).z) (zs:=p.zs) (n:=p.ns) (λj hj=>⟨q.out.fm.sh.num b (by omega) j hj,q.out.fm.sh.pl.sizes j hj⟩) p.ns nlr;have ns3:=q.out.fm.sh.pl.ns3;have ms8:=q.out.fm.ms8;have ba:0<=(p.zb b).room/\(p.zb b).room<=1000:=by
  have:=q.out.fm.sh.pl.bins b Y;simp only[rm,Xxq,Bool.not_eq_false'] at this;exact au this.1.1
 have TB:Hid (∀k,k<=s.ms.n->0<=js p s b k/\js p s b k<=1800*k):=Fi q.out.fm b;have TH:Hid (gj p s b=(p.zb b).room-ff (s.on.r b).z p.zs p.ns-js p s b s.ms.n):=rfl;obtain⟨bb,bo,V,aj,S,y1,y2,y3⟩:=c.bins b Y;rw[V] at D;have HF:=hid q.out.fm;clear V o L c f ap q;subst hb
 generalize ff (s.on.r b).z p.zs p.ns=US at *
 generalize (p.zb b).room=RM at *
 have q1:(0:Int)<=(b:Int):=by omega
 go_wp2_with fail
 go_loopw [11,42] (λu i wk=>∃k:Nat,k<=s.ms.n/\i = .int .i64 k/\u = .int .i64 (RM-US-js p s b k)/\Below F.heap.size F wk) (λ_ i _=>s.ms.n-(intOf i).toNat)
 case atStart=>exact⟨0,Qxz _,rfl,by simp[js],K⟩
 clear K m G D A T c0 c1 c2 c3 c4 c5 c6 S y1 y2 y3 aj;obtain⟨k,hk,rfl,rfl,t⟩:=hrel;have m1:=TB.out k hk;by_cases ad:k<s.ms.n;rotate_left
 .have a5:k=s.ms.n:=by omega
  subst a5;go_wp2_with fail
  go_ret2
  exact⟨by rw[y.out.1,y.out.2.1,TH.out];rfl,J.trans (t.mono J.size)⟩
 obtain⟨X,c,f,m⟩:=Q.out wr t;obtain⟨⟨G,D,A⟩,T,-⟩:=X;obtain⟨b1,o1,ac,bx,z0,z1,z2,z3⟩:=f.ms.hds k ad;have x:=rv (HF.out.move k ad);obtain⟨g,hg⟩:=Qzz x.1.1;have ae:g<p.ns:=by omega
 obtain⟨b2,o2,aa,a0,S⟩:=c.sizes g ae;have a2:=HF.out.sh.pl.sizes g ae;have aq:=x.2.2.2.2;have bn:=Eg (a:=(s.ms.z k).n) (b:=p.zs g) ⟨by omega,aq.2⟩ a2;have P:Hid (((s.ms.z k).b=b->js p s b (k+1)=js p s b k+(s.ms.z k).n*p.zs g)/\(¬(s.ms.z k).b=b->js p s b (k+1)=js p s b k)):=⟨λh=>by rw[Oi h,hg];rfl,Lp⟩;rw[hg] at z0;rw[aa] at A;obtain⟨v,M,B,hY⟩:∃v,wr.alloc (.cells #[.int .i64 g,.int .i64 (s.ms.z k).l,.int .i64 (s.ms.z k).b,.int .i64 (s.ms.z k).n] 63)=v/\Below F.heap.size F v/\Blk v wr.heap.size 63 4 (λj=>(#[.int .i64 g,.int .i64 (s.ms.z k).l,.int .i64 (s.ms.z k).b,.int .i64 (s.ms.z k).n]:Array Value).getD j default):=⟨_,rfl,t.alloc t.size _,Blk.mk' rfl rfl⟩;have HV:=hid M;have H:Below wr.heap.size wr v:=by rw[<-M];exact brf.alloc nlr _
 have r0:=Qqq (hY.k 0);have r3:=Qqq (hY.k 3);have r4:∀d os,(grow (redrawn v d) os).cell? ⟨w.heap.size,1,none⟩=some (.slice (some ⟨b2,o2,none⟩) p.ns p.cs):=λd os=>Qqq ((H.cell (p:=⟨w.heap.size,1,none⟩) G).trans A) d os;have r5:∀d os,(grow (redrawn v d) os).cell? ⟨b2,o2+g,none⟩=some (.int .i64 (p.zs g)):=λd os=>Qqq ((H.cell (p:=⟨b2,o2+g,none⟩) a0).trans S) d os;have q2:(0:Int)<=(g:Int):=by omega
 have q3:(0:Int)<=(k:Int):=by omega
 rw[ac];clear ac aa hg x M c f m S H D A
 generalize js p s b k=U at *
 generalize (s.ms.z k).b=BB at *
 generalize (s.ms.z k).l=LL at *
 generalize (s.ms.z k).n=NN at *
 generalize p.zs g=ZG at *
 cases o:(BB==(b:Int))
 .have x:=P.out.2 (by simpa using o);have HM:=hid x;clear x P r0 r3 r4 r5;go_wp2_with fail;rw[HV.out];go_roundw
  case rel=>exact⟨k+1,by omega,by go_num,by rw[HM.out],B⟩
  case measure=>simp[intOf];omega
 have x:=P.out.1 (by simpa using o);have HM:=hid x;clear x P;go_wp2_with fail;rw[HV.out]
 generalize hPR:NN*ZG=PR at *
 refine Qxq (by kernel_rfl) (by kernel_rfl) ?_
 repeat(go_big_quiet_step(fail))
 refine Qqz ?_;intro _ az;obtain⟨⟨dq,W⟩,am⟩:=az;subst am;have hC:=B.trans ((Qxx v dq W).mono B.size);clear r0 r3 r4 r5 hY B HV
 generalize grow (redrawn v dq) W=wz at *
 go_wp2_with fail;go_roundw
 case rel=>exact⟨k+1,by omega,by go_num,by rw[HM.out,Int.sub_sub _ U],hC⟩
 case measure=>simp[intOf];omega
def td(p:Pl)(s:St):Prop:=s.on.n=p.nb/\(∀i,i<p.nb->(s.on.r i).n=p.ns/\∀j,j<p.ns->(s.on.r i).z j=0)/\s.os.n=0/\s.hs.n=0/\s.ms.n=0 /\
 (s.si.n=p.ns/\∀j,j<p.ns->s.si.z j=0)/\(s.so.n=p.ns/\∀j,j<p.ns->s.so.z j=0)/\(s.sf.n=p.ns/\∀j,j<p.ns->s.sf.z j=0)
def Er(s:St):Prop:=s.on.n=0/\s.os.n=0/\s.hs.n=0/\s.ms.n=0/\s.si.n=0/\s.so.n=0/\s.sf.n=0
def acc(p:Pl)(s:St):Prop:=(et p=0->td p s)/\(¬et p=0->Er s)
def j5:St:=⟨⟨none,0,0,λ_=>⟨none,0,0,λ_=>0⟩⟩,⟨none,0,0,λ_=>⟨0,⟨none,0,0,λ_=>⟨0,0,0,0⟩⟩⟩⟩,⟨none,0,0,λ_=>⟨0,0,0,0⟩⟩,⟨none,0,0,λ_=>⟨0,0,0,0⟩⟩,⟨none,0,0,λ_=>0⟩,⟨none,0,0,λ_=>0⟩,⟨none,0,0,λ_=>0⟩⟩
theorem Rw.none(w:World):Rw.At w ⟨.none,0,0,λ_=>0⟩:=⟨Nat.le_refl _,Qxz _,λi hi=>absurd hi (Qzq _)⟩
theorem Hs.none(w:World):Hs.At w ⟨.none,0,0,λ_=>⟨0,0,0,0⟩⟩:=⟨Nat.le_refl _,Qxz _,λi hi=>absurd hi (Qzq _),λ_=>rfl⟩
theorem uo(w:World):j5.At w :=
 ⟨⟨Nat.le_refl _,Qxz _,λi hi=>absurd hi (Qzq _)⟩,⟨Nat.le_refl _,Qxz _,λi hi=>absurd hi (Qzq _)⟩,Hs.none w,Hs.none w,Rw.none w,Rw.none w,Rw.none w⟩
theorem N0(a:j<n):(madeCells (Value.int .i64 0).cells n).toList.getD j default = .int .i64 0:=by
 simp[madeCells,Value.cells,a,Nat.mod_one]
theorem ad2(a:j<n):(madeCells (Value.slice .none 0 0).cells n).toList.getD j default = .slice .none 0 0:=by
 simp[madeCells,Value.cells,a,Nat.mod_one]
theorem Y9:(prog.info? 3).map (λi=>(i.zero,i.size,i.bytes))=some (some (.int .i64 0),1,8):=by kernel_rfl
theorem Za:(prog.info? 23).map (λi=>(i.zero,i.size,i.bytes))=some (some (.slice .none 0 0),1,24):=by kernel_rfl
theorem C7(B:Nat)(p:Pl)(w:World)(ns3:p.ns<=3)(s:B<w.heap.size)(c1:w.cell? ⟨B,1,none⟩=some (.slice p.sa p.ns p.cs)):
  Calls prog 62 #[.pointer (some ⟨B,0,none⟩)] w λe i=>e = .returned (.slice (some ⟨w.heap.size,0,none⟩) p.ns p.ns)/\Blk i w.heap.size 3 p.ns (λ_ => .int .i64 0)/\Below w.heap.size w i:=by
 obtain⟨o,hi,d,l,h⟩:=info_parts Y9;go_enter func62,ntmps62;go_wp2_with(at_make;refine wpList_make_full _ rfl _ _ 23 rfl w.heap.size 3 o (.int .i64 0) 1 underlying23 hi d l .i64 .i64 _ _ p.ns rfl rfl rfl rfl (by rw[h];omega) (by unfold maxLen;omega) nlr ?_;intro r c b);go_ret;obtain⟨g,q,f,_,_,_,a⟩:=Blk.ofOwns c (by simp);simp only[Value.slice.injEq,Qkx,Qkz,and_true] at f;obtain⟨rfl,-,-⟩:=f;rw[Nat.mul_one] at a;exact⟨rfl,a.congr (λj m=>N0 m),(Below.refl _ w).grown b nlr (by intro k n;cases n)⟩
theorem C1(h:Blk w g e n (λ_ => .int .i64 0))(a:n<=3):Rw.At w ⟨some ⟨g,0,.none⟩,n,n,λ_=>0⟩:=
 ⟨Nat.le_refl _,by show n<=maxLen;unfold maxLen;omega,λi hi=>⟨g,0,rfl,h.lt,by rw[Nat.zero_add];exact h.cell hi⟩⟩
def set7(w:World)(b:Nat)(v0 v1 v2 v3 v4 v5 v6:Value):World :=
 ((((((w.setCell ⟨b,0,none⟩ v0).setCell ⟨b,1,none⟩ v1).setCell ⟨b,2,none⟩ v2).setCell ⟨b,3,none⟩ v3).setCell ⟨b,4,none⟩ v4).setCell ⟨b,5,none⟩ v5).setCell ⟨b,6,none⟩ v6
theorem nl(h:Blk w b e 7 f)(l i c a g d k:Value):Blk (set7 w b l i c a g d k) b e 7 (λj=>(#[l,i,c,a,g,d,k]:Array Value).getD j default):=
 (((((((h.set 0 l).set 1 i).set 2 c).set 3 a).set 4 g).set 5 d).set 6 k).congr λj m=>by match j,m with|0,_=>rfl|1,_=>rfl|2,_=>rfl|3,_=>rfl|4,_=>rfl|5,_=>rfl|6,_=>rfl
theorem mj(h:Blk w g e n f)(c:g≠b)(o l i d k j m:Value):Blk (set7 w b o l i d k j m) g e n f :=
 ((((((h.other (a:=⟨b,0,none⟩) c o).other (a:=⟨b,1,none⟩) c l).other (a:=⟨b,2,none⟩) c i).other (a:=⟨b,3,none⟩) c d).other (a:=⟨b,4,none⟩) c k).other (a:=⟨b,5,none⟩) c j).other (a:=⟨b,6,none⟩) c m
theorem j7{A:World}(h:Below n A w)(a:n<=b)(j g d c f e i:Value):Below n A (set7 w b j g d c f e i):=
 ((((((h.setCell (p:=⟨b,0,none⟩) a j).setCell (p:=⟨b,1,none⟩) a g).setCell (p:=⟨b,2,none⟩) a d).setCell (p:=⟨b,3,none⟩) a c).setCell (p:=⟨b,4,none⟩) a f).setCell (p:=⟨b,5,none⟩) a e).setCell (p:=⟨b,6,none⟩) a i
theorem df{l g c a f d i:Value}(h:Blk w b e 7 (λj=>(#[l,g,c,a,f,d,i]:Array Value).getD j default)):
  w.cell? ⟨b,0,none⟩=some l/\w.cell? ⟨b,1,none⟩=some g/\w.cell? ⟨b,2,none⟩=some c/\w.cell? ⟨b,3,none⟩=some a/\w.cell? ⟨b,4,none⟩=some f/\w.cell? ⟨b,5,none⟩=some d/\w.cell? ⟨b,6,none⟩=some i :=
 ⟨h.k 0,h.k 1,h.k 2,h.k 3,h.k 4,h.k 5,h.k 6⟩
theorem ab7(w:World)(x:St):∃W,w.alloc (.cells #[.slice x.on.a x.on.n x.on.c,.slice x.os.a x.os.n x.os.c,.slice x.hs.a x.hs.n x.hs.c,.slice x.ms.a x.ms.n x.ms.c,.slice x.si.a x.si.n x.si.c,.slice x.so.a x.so.n x.so.c,.slice x.sf.a x.sf.n x.sf.c] 31)=W/\Below w.heap.size w W/\Blk W w.heap.size 31 7 (λj=>x.cells.getD j default):=⟨_,rfl,(Below.refl _ _).alloc (Nat.le_refl _) _,Blk.mk' rfl rfl⟩
theorem n7b(h:Blk w b e 7 f):Blk (set7 w b (.slice .none 0 0) (.slice .none 0 0) (.slice .none 0 0) (.slice .none 0 0) (.slice .none 0 0) (.slice .none 0 0) (.slice .none 0 0)) b e 7 (λj=>(#[.slice .none 0 0,.slice .none 0 0,.slice .none 0 0,.slice .none 0 0,.slice .none 0 0,.slice .none 0 0,.slice .none 0 0]:Array Value).getD j default):=nl h (.slice .none 0 0) (.slice .none 0 0) (.slice .none 0 0) (.slice .none 0 0) (.slice .none 0 0) (.slice .none 0 0) (.slice .none 0 0)
theorem n7w{A:World}(h:Below n A w)(a:n<=b):Below n A (set7 w b (.slice .none 0 0) (.slice .none 0 0) (.slice .none 0 0) (.slice .none 0 0) (.slice .none 0 0) (.slice .none 0 0) (.slice .none 0 0)):=j7 h a (.slice .none 0 0) (.slice .none 0 0) (.slice .none 0 0) (.slice .none 0 0) (.slice .none 0 0) (.slice .none 0 0) (.slice .none 0 0)
theorem s7b(h:Blk w b e 7 f)(y:St):Blk (set7 w b (.slice y.on.a y.on.n y.on.c) (.slice y.os.a y.os.n y.os.c) (.slice y.hs.a y.hs.n y.hs.c) (.slice y.ms.a y.ms.n y.ms.c) (.slice y.si.a y.si.n y.si.c) (.slice y.so.a y.so.n y.so.c) (.slice y.sf.a y.sf.n y.sf.c)) b e 7 (λj=>(#[.slice y.on.a y.on.n y.on.c,.slice y.os.a y.os.n y.os.c,.slice y.hs.a y.hs.n y.hs.c,.slice y.ms.a y.ms.n y.ms.c,.slice y.si.a y.si.n y.si.c,.slice y.so.a y.so.n y.so.c,.slice y.sf.a y.sf.n y.sf.c]:Array Value).getD j default):=nl h (.slice y.on.a y.on.n y.on.c) (.slice y.os.a y.os.n y.os.c) (.slice y.hs.a y.hs.n y.hs.c) (.slice y.ms.a y.ms.n y.ms.c) (.slice y.si.a y.si.n y.si.c) (.slice y.so.a y.so.n y.so.c) (.slice y.sf.a y.sf.n y.sf.c)
theorem s7w{A:World}(h:Below n A w)(d:n<=b)(y:St):Below n A (set7 w b (.slice y.on.a y.on.n y.on.c) (.slice y.os.a y.os.n y.os.c) (.slice y.hs.a y.hs.n y.hs.c) (.slice y.ms.a y.ms.n y.ms.c) (.slice y.si.a y.si.n y.si.c) (.slice y.so.a y.so.n y.so.c) (.slice y.sf.a y.sf.n y.sf.c)):=j7 h d (.slice y.on.a y.on.n y.on.c) (.slice y.os.a y.os.n y.os.c) (.slice y.hs.a y.hs.n y.hs.c) (.slice y.ms.a y.ms.n y.ms.c) (.slice y.si.a y.si.n y.si.c) (.slice y.so.a y.so.n y.so.c) (.slice y.sf.a y.sf.n y.sf.c)
def j9(A:Nat)(w:World)(r:Rw):Prop:=∃g,r.a=some ⟨g,0,none⟩/\A<=g/\r.n<=r.c/\r.c<=maxLen/\Blk w g 3 r.n (λj => .int .i64 (r.z j))
theorem j9.at{r:Rw}(h:j9 A w r):r.At w:=by
 obtain⟨g,b,_,d,c,a⟩:=h;exact⟨d,c,λi hi=>⟨g,0,b,a.lt,by rw[Nat.zero_add];exact a.cell hi⟩⟩
theorem j9.below{r:Rw}(h:j9 A w r)(e:Below w.heap.size w a):j9 A a r:=by
 obtain⟨g,d,c,i,f,b⟩:=h;exact⟨g,d,c,i,f,b.below e⟩
structure ai(A:Nat)(w:World)(s:St):Prop where
 on:∃g,s.on.a=some ⟨g,0,none⟩/\A<=g/\s.on.n<=s.on.c/\s.on.c<=maxLen/\Blk w g 23 s.on.n (λi => .slice (s.on.r i).a (s.on.r i).n (s.on.r i).c)
 rows:∀i,i<s.on.n->j9 A w (s.on.r i)
 rapart:∀i j,i<j->j<s.on.n->(s.on.r i).a≠(s.on.r j).a
 os:kq A w s.os
 hs:cw A 61 w s.hs
 ms:cw A 63 w s.ms
 msr:fu A w 63 4 s.ms.a s.ms.c
 si:j9 A w s.si
 so:j9 A w s.so
 sf:j9 A w s.sf
 aio:s.si.a≠s.so.a
 aif:s.si.a≠s.sf.a
 aof:s.so.a≠s.sf.a
 ari:∀i,i<s.on.n->(s.on.r i).a≠s.si.a/\(s.on.r i).a≠s.so.a/\(s.on.r i).a≠s.sf.a
theorem ai.at(h:ai A w s):s.At w:=by
 obtain⟨g,b,_,d,c,a⟩:=h.on;exact⟨⟨d,c,λi hi=>⟨g,0,b,a.lt,by rw[Nat.zero_add];exact a.cell hi,(h.rows i hi).at⟩⟩,h.os.at,h.hs.at,h.ms.at,h.si.at,h.so.at,h.sf.at⟩
theorem j9.other{t:TypeId}{r:Rw}(h:j9 A w r)(k:Blk w q t n f)(c:3≠t)(j:Nat)(u:Value):j9 A (w.setCell ⟨q,j,none⟩ u) r:=by
 obtain⟨g,e,d,l,i,b⟩:=h;exact⟨g,e,d,l,i,b.other (a:=⟨q,j,none⟩) (Blk.ne2 b k c) u⟩
theorem kq.other{t:TypeId}{s:Os}(h:kq A w s)(k:Blk w q t n f)(l:57≠t)(m:59≠t)(j:Nat)(u:Value):kq A (w.setCell ⟨q,j,none⟩ u) s:=by
 refine⟨h.le,h.cap,λo => ?_,λi hi => ?_,h.apart,h.room.set q j u⟩
 .obtain⟨g,a,b,c⟩:=h.list o;exact⟨g,a,b,c.other (a:=⟨q,j,none⟩) (Blk.ne2 c k l) u⟩
 obtain⟨B,a,b,c,d,e⟩:=h.lines i hi;exact⟨B,a,b,c,d,e.other (a:=⟨q,j,none⟩) (Blk.ne2 e k m) u⟩
theorem ai.box(h:ai A w s)(b:Blk w q 31 n f)(j:Nat)(u:Value):ai A (w.setCell ⟨q,j,none⟩ u) s:=by
 refine⟨?_,λi hi=>(h.rows i hi).other b (by decide) j u,h.rapart,h.os.other b (by decide) (by decide) j u,h.hs.other b (by decide) j u,h.ms.other b (by decide) j u,h.msr.set q j u,h.si.other b (by decide) j u,h.so.other b (by decide) j u,h.sf.other b (by decide) j u,h.aio,h.aif,h.aof,h.ari⟩;obtain⟨g,k,d,e,l,c⟩:=h.on;exact⟨g,k,d,e,l,c.other (a:=⟨q,j,none⟩) (Blk.ne2 c b (by decide)) u⟩
theorem ai.set7(h:ai A w s)(d:Blk w b 31 7 f)(a c e g i j k:Value):ai A (Go.Proofs.YtbcacebifpagpagGreat.set7 w b a c e g i j k) s :=
 ((((((h.box d 0 a).box (d.set 0 a) 1 c).box ((d.set 0 a).set 1 c) 2 e).box (((d.set 0 a).set 1 c).set 2 e) 3 g).box ((((d.set 0 a).set 1 c).set 2 e).set 3 g) 4 i).box (((((d.set 0 a).set 1 c).set 2 e).set 3 g).set 4 i) 5 j).box ((((((d.set 0 a).set 1 c).set 2 e).set 3 g).set 4 i).set 5 j) 6 k
def C8(A:Nat)(s:St)(v:Value)(g:List Nat)(wk:World):Prop:=∃(g0:Nat) (G C:Nat->Nat),v = .slice (some ⟨g0,0,none⟩) s.on.n s.on.n/\A<=g0/\Blk wk g0 23 s.on.n (λi => .slice (some ⟨G i,0,none⟩) (s.on.r i).n (C i)) /\
 (∀i,i<s.on.n->A<=G i/\(s.on.r i).n<=C i/\C i<=maxLen/\Blk wk (G i) 3 (s.on.r i).n (λj => .int .i64 ((s.on.r i).z j)))/\(∀i j,i<j->j<s.on.n->G i<G j)/\g=(List.range s.on.n).map G
theorem C8.below{g:List Nat}{c:World}(h:C8 A s v g w)(b:Below w.heap.size w c):C8 A s v g c:=by
 obtain⟨l,G,C,d,k,f,a,j,e⟩:=h;exact⟨l,G,C,d,k,f.below b,λi hi=>⟨(a i hi).1,(a i hi).2.1,(a i hi).2.2.1,(a i hi).2.2.2.below b⟩,j,e⟩
theorem C8.lt{g:List Nat}(h:C8 A s v g w):∀x∈g,x<w.heap.size:=by
 obtain⟨f,G,C,b,e,c,a,d,rfl⟩:=h;intro x hx;obtain⟨i,hi,rfl⟩:=List.mem_map.1 hx;exact(a i (List.mem_range.1 hi)).2.2.2.lt
def ku(A:Nat)(r:Rw)(v:Value)(g:List Nat)(wk:World):Prop:=∃B c,g=[B]/\v = .slice (some ⟨B,0,none⟩) r.n c/\A<=B/\r.n<=c/\c<=maxLen/\Blk wk B 3 r.n (λj => .int .i64 (r.z j))
theorem ku.below{r:Rw}{g:List Nat}(h:ku A r v g w)(b:Below w.heap.size w a):ku A r v g a:=by
 obtain⟨B,c,d,k,f,j,i,e⟩:=h;exact⟨B,c,d,k,f,j,i,e.below b⟩
theorem ku.lt{r:Rw}{g:List Nat}(h:ku A r v g w):∀x∈g,x<w.heap.size:=by
 obtain⟨B,c,rfl,f,b,e,d,a⟩:=h;intro x hx;rw[List.mem_singleton] at hx;subst hx;exact a.lt
def DHs(A:Nat)(e:TypeId)(s:Hs)(v:Value)(g:List Nat)(wk:World):Prop:=∃s':Hs,g=[]/\v = .slice s'.a s'.n s'.c/\qm A e s wk s'
theorem DHs.below{s:Hs}{g:List Nat}(h:DHs A e s v g w)(b:Below w.heap.size w a):DHs A e s v g a:=by
 obtain⟨j,l,k,d,i,f,c⟩:=h;exact⟨j,l,k,d,i,f.below b,c.below b⟩
theorem kq.below{j:World}{s:Os}(h:kq A w s)(f:Below w.heap.size w j):kq A j s:=by
 refine⟨h.le,h.cap,λk => ?_,λi hi => ?_,h.apart,h.room.below f⟩
 .obtain⟨g,a,b,c⟩:=h.list k;exact⟨g,a,b,c.below f⟩
 obtain⟨B,a,b,c,d,e⟩:=h.lines i hi;exact⟨B,a,b,c,d,e.below f⟩
theorem kq.mono{d:Nat}{s:Os}(h:kq A w s)(e:d<=A):kq d w s:=by
 refine⟨h.le,h.cap,λf => ?_,λi hi => ?_,h.apart,h.room.mono e⟩
 .obtain⟨g,a,b,c⟩:=h.list f;exact⟨g,a,by omega,c⟩
 obtain⟨B,a,b,c⟩:=h.lines i hi;exact⟨B,a,by omega,c⟩
def DOs(A:Nat)(s:Os)(v:Value)(g:List Nat)(wk:World):Prop:=∃s':Os,g=[]/\v = .slice s'.a s'.n s'.c/\Vn s' s/\kq A wk s'
theorem DOs.below{s:Os}{g:List Nat}(h:DOs A s v g w)(d:Below w.heap.size w a):DOs A s v g a:=by
 obtain⟨e,i,f,b,c⟩:=h;exact⟨e,i,f,b,c.below d⟩
theorem ov(p:Pl)(s:St)(w:World)(hs:s.At w)(f:cx p s):
  Calls prog 90 #[s.val] w λe y=>∃L:St,e = .returned L.val/\af L s/\ai w.heap.size y L/\Below w.heap.size w y:=by
 obtain⟨W0,hW,au,X0,Z0⟩:∃W,((w.alloc (.cells s.cells 31)).alloc (.cells #[.slice .none 0 0,.slice .none 0 0,.slice .none 0 0,.slice .none 0 0,.slice .none 0 0,.slice .none 0 0,.slice .none 0 0] 31))=W/\Below w.heap.size w W/\Blk W w.heap.size 31 7 (λj=>s.cells.getD j default)/\Blk W (w.heap.size+1) 31 7 (λ_ => .slice .none 0 0):=
  ⟨_,rfl,ix _ _ _,(Blk.mk' rfl rfl).alloc _,(Blk.mk' (cur:=#[.slice .none 0 0,.slice .none 0 0,.slice .none 0 0,.slice .none 0 0,.slice .none 0 0,.slice .none 0 0,.slice .none 0 0]) (by simp) rfl).congr (λj Q=>by match j,Q with|0,_=>rfl|1,_=>rfl|2,_=>rfl|3,_=>rfl|4,_=>rfl|5,_=>rfl|6,_=>rfl)⟩
 have HW:Hid ((w.alloc (.cells #[.slice s.on.a s.on.n s.on.c,.slice s.os.a s.os.n s.os.c,.slice s.hs.a s.hs.n s.hs.c,.slice s.ms.a s.ms.n s.ms.c,.slice s.si.a s.si.n s.si.c,.slice s.so.a s.so.n s.so.c,.slice s.sf.a s.sf.n s.sf.c] 31)).alloc (.cells #[.slice .none 0 0,.slice .none 0 0,.slice .none 0 0,.slice .none 0 0,.slice .none 0 0,.slice .none 0 0,.slice .none 0 0] 31)=W0):=hW;have HS:=hid (hs.below au);have t:=hid f;have HZ:=hid Z0;have cs:=au.size;obtain⟨l1,c0,c1,c2,c3,c4,c5,c6⟩:=Boxed.of X0;have r0:=Qqq c0;have r1:=Qqq c1;have r2:=Qqq c2;have r3:=Qqq c3;have r4:=Qqq c4;have r5:=Qqq c5;have r6:=Qqq c6;clear hW X0 Z0 hs f c0 c1 c2 c3 c4 c5 c6;unfold St.val;go_enter func90,ntmps90;go_wp2_with fail;rw[HW.out];refine fh (λy=>∃p:Regrown,y=grow (redrawn W0 p.d) p.os) [0,1,3,4,6,7,9,10,12,13,15,16,18,19] [2,5,8,11,14,17,20] [(false,21),(true,22)] (Qqx (brf.drew)) ?_;simp only[du,Qyq,Xqq,Qyx,Qyz,Xqz,Xqx]
 repeat(go_big_quiet_step(fail))
 refine Qqz ?_;clear r0 r1 r2 r3 r4 r5 r6;refine⟨λj v g k=>match j with|2=>C8 w.heap.size s v g k|5=>DOs w.heap.size s.os v g k|8=>DHs w.heap.size 61 s.hs v g k|11=>DHs w.heap.size 63 s.ms v g k|14=>ku w.heap.size s.si v g k|17=>ku w.heap.size s.so v g k|20=>ku w.heap.size s.sf v g k|_=>True,
  Qjx ⟨λv g w y J h=>C8.below h J,Qjx ⟨λv g w y J h=>DOs.below h J,Qjx ⟨λv g w y J h=>DHs.below h J,Qjx ⟨λv g w y J h=>DHs.below h J,Qjx ⟨λv g w y J h=>ku.below h J,Qjx ⟨λv g w y J h=>ku.below h J,Qjx ⟨λv g w y J h=>ku.below h J,Qjq _⟩⟩⟩⟩⟩⟩⟩,
  Qjx ⟨λv g w h=>C8.lt h,Qjx ⟨λv g w h=>by obtain⟨_,h1,_⟩:=h;rw[h1];intro x hx;simp at hx,Qjx ⟨λv g w h=>by obtain⟨_,h1,_⟩:=h;rw[h1];intro x hx;simp at hx,Qjx ⟨λv g w h=>by obtain⟨_,h1,_⟩:=h;rw[h1];intro x hx;simp at hx,Qjx ⟨λv g w h=>ku.lt h,Qjx ⟨λv g w h=>ku.lt h,Qjx ⟨λv g w h=>ku.lt h,Qjq _⟩⟩⟩⟩⟩⟩⟩,
  Qjx ⟨?zs2,Qjx ⟨?zs5,Qjx ⟨?zs8,Qjx ⟨?zs11,Qjx ⟨?zs14,Qjx ⟨?zs17,Qjx ⟨?zs20,Qjq _⟩⟩⟩⟩⟩⟩⟩,?zdone⟩
 case zs2 =>
  intro V G k K B hd u;have l:=ae B;refine aq 2 rfl ?_;simp only[ap,az,Qvz,Qwq,Qvx,Act.put,Qvq,Qwx,Qwz] at u ⊢;go_wp2_with fail;refine(Ja s.on k (HS.out.on.below l) (by rw[t.out.sh.n];exact t.out.sh.pl.nb6) (λi hi=>by rw[t.out.sh.len i hi];exact⟨t.out.sh.pl.ns1,t.out.sh.pl.ns3⟩)).mono ?_;rintro e w2 ⟨X,S,Cr,rfl,a1,H,M,U,m⟩;go_wp2_with fail;have q:=l.size;refine u _ ((List.range s.on.n).map S) _ (Qqx (l.trans (m.mono l.size))) m (λx hx => ?_) ⟨X,S,Cr,rfl,by omega,H,λi hi=>⟨by have:=(M i hi).1;omega,(M i hi).2⟩,U,rfl⟩;obtain⟨i,hi,rfl⟩:=List.mem_map.1 hx;have:=(M i (List.mem_range.1 hi)).1;omega
 case zs5 =>
  intro V G k K B hd u;have l:=ae B;refine aq 5 rfl ?_;simp only[ap,az,Qvz,Qwq,Qvx,Act.put,Qvq,Qwx,Qwz] at u ⊢;go_wp2_with fail;refine(O3 s.os k (HS.out.os.below l) (by have:=t.out.os4;omega) t.out.lns).mono ?_;rintro e w2 ⟨L,rfl,a1,H,m⟩;have q:=l.size;have HR:Hid (Vn L s.os/\kq w.heap.size w2 L):=⟨a1,H.mono (by omega)⟩;clear a1 H;simp only[Os.val];go_wp2_with fail;exact u _ [] _ (Qqx (l.trans (m.mono l.size))) m (λx hx=>by simp at hx) ⟨L,rfl,rfl,HR.out.1,HR.out.2⟩
 case zs8 =>
  intro V G k K B hd u;have l:=ae B;refine aq 8 rfl ?_;simp only[ap,az,Qvz,Qwq,Qvx,Act.put,Qvq,Qwx,Qwz] at u ⊢;go_wp2_with fail;refine(Qz s.hs k (HS.out.hs.below l) (by have:=t.out.hs72;omega)).mono ?_;rintro e w2 ⟨L,rfl,hc,m⟩;have q:=l.size;have HR:Hid (qm w.heap.size 61 s.hs w2 L):=⟨hc.1,hc.2.1,hc.2.2.1.mono (by omega),hc.2.2.2.mono (by omega)⟩;clear hc;simp only[Hs.val];go_wp2_with fail;exact u _ [] _ (Qqx (l.trans (m.mono l.size))) m (λx hx=>by simp at hx) ⟨L,rfl,rfl,HR.out⟩
 case zs11 =>
  intro V G k K B hd u;have l:=ae B;refine aq 11 rfl ?_;simp only[ap,az,Qvz,Qwq,Qvx,Act.put,Qvq,Qwx,Qwz] at u ⊢;go_wp2_with fail;refine(Q0 s.ms k (HS.out.ms.below l) (by have:=t.out.ms8;omega)).mono ?_;rintro e w2 ⟨L,rfl,hc,m⟩;have q:=l.size;have HR:Hid (qm w.heap.size 63 s.ms w2 L):=⟨hc.1,hc.2.1,hc.2.2.1.mono (by omega),hc.2.2.2.mono (by omega)⟩;clear hc;simp only[Hs.val];go_wp2_with fail;exact u _ [] _ (Qqx (l.trans (m.mono l.size))) m (λx hx=>by simp at hx) ⟨L,rfl,rfl,HR.out⟩
 case zs14 =>
  intro V G k K B hd u;have l:=ae B;have bc:=t.out.sh.pl.ns1;have be:=t.out.sh.pl.ns3;have ad:Hid (Calls prog 140 #[.slice s.si.a s.si.n s.si.c] k λe y=>∃g A,e = .returned (.slice (some ⟨g,0,none⟩) s.si.n A)/\s.si.n<=A/\A<=maxLen/\k.heap.size<=g/\Blk y g 3 s.si.n (λj => .int .i64 (s.si.z j))/\Below k.heap.size k y):=by
   have hr:=HS.out.si.below l;obtain⟨b,o,ha,-,-⟩:=hr.ints 0 (by rw[t.out.sin];omega);have hi:=hr.ints;have hz:s.si.n=p.ns:=t.out.sin;rw[ha] at hi;have:=Ep b o s.si.n s.si.c s.si.z k (by omega) (by omega) hi;rw[<-ha] at this;exact this
  refine aq 14 rfl ?_;simp only[ap,az,Qvz,Qwq,Qvx,Act.put,Qvq,Qwx,Qwz] at u ⊢;go_wp2_with fail;refine ad.out.mono ?_;rintro e w2 ⟨g,A,rfl,a1,H,M,U,m⟩;have q:=l.size;go_wp2_with fail;exact u _ [g] _ (Qqx (l.trans (m.mono l.size))) m (λx hx=>by rw[List.mem_singleton] at hx;omega) ⟨g,A,rfl,rfl,by omega,a1,H,U⟩
 case zs17 =>
  intro V G k K B hd u;have l:=ae B;have bc:=t.out.sh.pl.ns1;have be:=t.out.sh.pl.ns3;have ad:Hid (Calls prog 140 #[.slice s.so.a s.so.n s.so.c] k λe y=>∃g A,e = .returned (.slice (some ⟨g,0,none⟩) s.so.n A)/\s.so.n<=A/\A<=maxLen/\k.heap.size<=g/\Blk y g 3 s.so.n (λj => .int .i64 (s.so.z j))/\Below k.heap.size k y):=by
   have hr:=HS.out.so.below l;obtain⟨b,o,ha,-,-⟩:=hr.ints 0 (by rw[t.out.son];omega);have hi:=hr.ints;have hz:s.so.n=p.ns:=t.out.son;rw[ha] at hi;have:=Ep b o s.so.n s.so.c s.so.z k (by omega) (by omega) hi;rw[<-ha] at this;exact this
  refine aq 17 rfl ?_;simp only[ap,az,Qvz,Qwq,Qvx,Act.put,Qvq,Qwx,Qwz] at u ⊢;go_wp2_with fail;refine ad.out.mono ?_;rintro e w2 ⟨g,A,rfl,a1,H,M,U,m⟩;have q:=l.size;go_wp2_with fail;exact u _ [g] _ (Qqx (l.trans (m.mono l.size))) m (λx hx=>by rw[List.mem_singleton] at hx;omega) ⟨g,A,rfl,rfl,by omega,a1,H,U⟩
 case zs20 =>
  intro V G k K B hd u;have l:=ae B;have bc:=t.out.sh.pl.ns1;have be:=t.out.sh.pl.ns3;have ad:Hid (Calls prog 140 #[.slice s.sf.a s.sf.n s.sf.c] k λe y=>∃g A,e = .returned (.slice (some ⟨g,0,none⟩) s.sf.n A)/\s.sf.n<=A/\A<=maxLen/\k.heap.size<=g/\Blk y g 3 s.sf.n (λj => .int .i64 (s.sf.z j))/\Below k.heap.size k y):=by
   have hr:=HS.out.sf.below l;obtain⟨b,o,ha,-,-⟩:=hr.ints 0 (by rw[t.out.sfn];omega);have hi:=hr.ints;have hz:s.sf.n=p.ns:=t.out.sfn;rw[ha] at hi;have:=Ep b o s.sf.n s.sf.c s.sf.z k (by omega) (by omega) hi;rw[<-ha] at this;exact this
  refine aq 20 rfl ?_;simp only[ap,az,Qvz,Qwq,Qvx,Act.put,Qvq,Qwx,Qwz] at u ⊢;go_wp2_with fail;refine ad.out.mono ?_;rintro e w2 ⟨g,A,rfl,a1,H,M,U,m⟩;have q:=l.size;go_wp2_with fail;exact u _ [g] _ (Qqx (l.trans (m.mono l.size))) m (λx hx=>by rw[List.mem_singleton] at hx;omega) ⟨g,A,rfl,rfl,by omega,a1,H,U⟩
 case zdone =>
  intro V G k B hD hA;obtain⟨X,S,Cr,v2,a1,H,M,U,a6⟩:C8 w.heap.size s (V 2) (G 2) k:=hD 2 (by simp);obtain⟨E,-,v5,b1,b2⟩:DOs w.heap.size s.os (V 5) (G 5) k:=hD 5 (by simp);obtain⟨D,-,v8,d1,d2,d3,-⟩:DHs w.heap.size 61 s.hs (V 8) (G 8) k:=hD 8 (by simp);obtain⟨m',-,bb,f1,f2,f3,f4⟩:DHs w.heap.size 63 s.ms (V 11) (G 11) k:=hD 11 (by simp);obtain⟨F,k1,ac,a9,i1,i2,i3,i4⟩:ku w.heap.size s.si (V 14) (G 14) k:=hD 14 (by simp);obtain⟨P,k2,ab,a8,j1,j2,j3,j4⟩:ku w.heap.size s.so (V 17) (G 17) k:=hD 17 (by simp);obtain⟨T,k3,Y,a7,l2,l3,l4,l5⟩:ku w.heap.size s.sf (V 20) (G 20) k:=hD 20 (by simp);have n12:F≠P:=λe=>hA 14 (by simp) 17 (by simp) (by decide) F (by rw[ac];simp) (by rw[ab,e];simp);have bd:F≠T:=λe=>hA 14 (by simp) 20 (by simp) (by decide) F (by rw[ac];simp) (by rw[Y,e];simp);have a5:P≠T:=λe=>hA 17 (by simp) 20 (by simp) (by decide) P (by rw[ab];simp) (by rw[Y,e];simp);have nr:∀i,i<s.on.n->S i≠F/\S i≠P/\S i≠T:=λi hi=>by
   have hm:S i∈G 2:=by rw[a6];exact List.mem_map.2 ⟨i,List.mem_range.2 hi,rfl⟩
   exact⟨λe=>hA 2 (by simp) 14 (by simp) (by decide) _ hm (by rw[ac,e];simp),λe=>hA 2 (by simp) 17 (by simp) (by decide) _ hm (by rw[ab,e];simp),λe=>hA 2 (by simp) 20 (by simp) (by decide) _ hm (by rw[Y,e];simp)⟩
  have l:=ae B;have hz:=HZ.out.below l;clear hD hA a6 ac ab Y;have HR:Hid (ai w.heap.size k ⟨⟨some ⟨X,0,none⟩,s.on.n,s.on.n,λi=>⟨some ⟨S i,0,none⟩,(s.on.r i).n,Cr i,(s.on.r i).z⟩⟩,E,D,m',⟨some ⟨F,0,none⟩,s.si.n,k1,s.si.z⟩,⟨some ⟨P,0,none⟩,s.so.n,k2,s.so.z⟩,⟨some ⟨T,0,none⟩,s.sf.n,k3,s.sf.z⟩⟩):=by
   refine⟨⟨X,rfl,a1,Nat.le_refl _,?_,H⟩,λi hi=>⟨S i,rfl,(M i hi).1,(M i hi).2.1,(M i hi).2.2.1,(M i hi).2.2.2⟩,λi j bv Q => ?_,b2,d3,f3,f4,⟨F,rfl,i1,i2,i3,i4⟩,⟨P,rfl,j1,j2,j3,j4⟩,⟨T,rfl,l2,l3,l4,l5⟩,?_,?_,?_,λi hi => ?_⟩
   .show s.on.n<=maxLen;have:=t.out.sh.n;have:=t.out.sh.pl.nb6;unfold maxLen;omega
   .have:=U i j bv Q;simp only[ne_eq,Qkx,Qkz,and_true];omega
   .intro e;simp only[Qkx,Qkz,and_true] at e;exact n12 e
   .intro e;simp only[Qkx,Qkz,and_true] at e;exact bd e
   .intro e;simp only[Qkx,Qkz,and_true] at e;exact a5 e
   obtain⟨x1,x2,x3⟩:=nr i hi;exact⟨λe=>by simp only[Qkx,Qkz,and_true] at e;exact x1 e,λe=>by simp only[Qkx,Qkz,and_true] at e;exact x2 e,λe=>by simp only[Qkx,Qkz,and_true] at e;exact x3 e⟩
  have HC:Hid (af ⟨⟨some ⟨X,0,none⟩,s.on.n,s.on.n,λi=>⟨some ⟨S i,0,none⟩,(s.on.r i).n,Cr i,(s.on.r i).z⟩⟩,E,D,m',⟨some ⟨F,0,none⟩,s.si.n,k1,s.si.z⟩,⟨some ⟨P,0,none⟩,s.so.n,k2,s.so.z⟩,⟨some ⟨T,0,none⟩,s.sf.n,k3,s.sf.z⟩⟩ s):=
   ⟨⟨rfl,λi hi=>⟨rfl,λj Q=>rfl⟩⟩,b1,⟨d1,λj Q=>d2 j (by rw[<-d1];exact Q)⟩,⟨f1,λj Q=>f2 j (by rw[<-f1];exact Q)⟩,⟨rfl,λj Q=>rfl⟩,⟨rfl,λj Q=>rfl⟩,⟨rfl,λj Q=>rfl⟩⟩
  clear a1 H M U b1 b2 d1 d2 d3 f1 f2 f3 f4 i1 i2 i3 i4 j1 j2 j3 j4 l2 l3 l4 l5 n12 bd a5 nr;have ba:=hid hz;obtain⟨zl,bo,b6,bw,zc1,b7,zc2,ci,zc3,b0,zc4,bj,zc5,bk,bx⟩:=z7 hz;clear hz;simp only[ap,az,Qvz,Qwq,Qvx,Act.put,Qvq,Qwx,Qwz,v2,v5,v8,bb,a9,a8,a7];refine cf 21 rfl ?_;go_wp2_with fail;refine⟨gy.no B,?_⟩;refine cf 22 rfl ?_;go_wp2_with fail;refine⟨gy.yes,?_⟩;refine NoPanic.normal ?_;have KZ:=nl ba.out (.slice (some ⟨X,0,none⟩) s.on.n s.on.n) (.slice E.a E.n E.c) (.slice D.a D.n D.c) (.slice m'.a m'.n m'.c) (.slice (some ⟨F,0,none⟩) s.si.n k1) (.slice (some ⟨P,0,none⟩) s.so.n k2) (.slice (some ⟨T,0,none⟩) s.sf.n k3);have bf:=j7 (b:=w.heap.size+1) (au.trans (l.mono au.size)) (by omega) (.slice (some ⟨X,0,none⟩) s.on.n s.on.n) (.slice E.a E.n E.c) (.slice D.a D.n D.c) (.slice m'.a m'.n m'.c) (.slice (some ⟨F,0,none⟩) s.si.n k1) (.slice (some ⟨P,0,none⟩) s.so.n k2) (.slice (some ⟨T,0,none⟩) s.sf.n k3);have ax:=ai.set7 HR.out ba.out (.slice (some ⟨X,0,none⟩) s.on.n s.on.n) (.slice E.a E.n E.c) (.slice D.a D.n D.c) (.slice m'.a m'.n m'.c) (.slice (some ⟨F,0,none⟩) s.si.n k1) (.slice (some ⟨P,0,none⟩) s.so.n k2) (.slice (some ⟨T,0,none⟩) s.sf.n k3);unfold set7 at KZ bf ax
  generalize (((((((k.setCell { block:=w.heap.size+1,off:=0 } (Value.slice (some { block:=X,off:=0 }) s.on.n s.on.n)).setCell { block:=w.heap.size+1,off:=1 } (Value.slice E.a E.n E.c)).setCell { block:=w.heap.size+1,off:=2 } (Value.slice D.a D.n D.c)).setCell { block:=w.heap.size+1,off:=3 } (Value.slice m'.a m'.n m'.c)).setCell { block:=w.heap.size+1,off:=4 } (Value.slice (some { block:=F,off:=0 }) s.si.n k1)).setCell { block:=w.heap.size+1,off:=5 } (Value.slice (some { block:=P,off:=0 }) s.so.n k2)).setCell { block:=w.heap.size+1,off:=6 } (Value.slice (some { block:=T,off:=0 }) s.sf.n k3))=WY at *
  clear l zl bo b6 bw zc1 b7 zc2 ci zc3 b0 zc4 bj zc5 bk bx v2 v5 v8 bb a9 a8 a7 B;obtain⟨c0,c1,c2,c3,c4,c5,c6⟩:=df KZ;have HQ:=hid ax;clear ax;go_wp2_with fail;refine Xzq (v:=(⟨⟨some ⟨X,0,none⟩,s.on.n,s.on.n,λi=>⟨some ⟨S i,0,none⟩,(s.on.r i).n,Cr i,(s.on.r i).z⟩⟩,E,D,m',⟨some ⟨F,0,none⟩,s.si.n,k1,s.si.z⟩,⟨some ⟨P,0,none⟩,s.so.n,k2,s.so.z⟩,⟨some ⟨T,0,none⟩,s.sf.n,k3,s.sf.z⟩⟩:St).val) (by simp[results,results90,go_sem,St.val,c0,c1,c2,c3,c4,c5,c6]) rfl ?_;exact⟨_,rfl,HC.out,HQ.out,bf⟩
theorem ai.mono{e:Nat}(h:ai A w s)(d:e<=A):ai e w s:=by
 have i:∀{r:Rw},j9 A w r->j9 e w r:=λ⟨g,a,b,c⟩=>⟨g,a,Qzx d b,c⟩;refine⟨?_,λj f=>i (h.rows j f),h.rapart,h.os.mono d,h.hs.mono d,h.ms.mono d,h.msr.mono d,i h.si,i h.so,i h.sf,h.aio,h.aif,h.aof,h.ari⟩;obtain⟨g,a,b,c⟩:=h.on;exact⟨g,a,Qzx d b,c⟩
theorem s7o(h:ai A w s)(d:Blk w b 31 7 f)(y:St):ai A (set7 w b (.slice y.on.a y.on.n y.on.c) (.slice y.os.a y.os.n y.os.c) (.slice y.hs.a y.hs.n y.hs.c) (.slice y.ms.a y.ms.n y.ms.c) (.slice y.si.a y.si.n y.si.c) (.slice y.so.a y.so.n y.so.c) (.slice y.sf.a y.sf.n y.sf.c)) s:=ai.set7 h d (.slice y.on.a y.on.n y.on.c) (.slice y.os.a y.os.n y.os.c) (.slice y.hs.a y.hs.n y.hs.c) (.slice y.ms.a y.ms.n y.ms.c) (.slice y.si.a y.si.n y.si.c) (.slice y.so.a y.so.n y.so.c) (.slice y.sf.a y.sf.n y.sf.c)
theorem Zl{c:Array Oper}{T:Nat->Bool}{b:List Nat}{L:Array Bool}{D:Nat->Value->List Nat->World->Prop}{fuel:Nat}(hB:uc c b L=true)(hT:∀r∈b,T r=false)
  (mono:∀j∈b,∀v g w B,Below w.heap.size w B->D j v g w->D j v g B) (lt:∀j∈b,∀v g w,D j v g w->∀x∈g,x<w.heap.size)
  (step:∀i∈b,∀(V:Nat->Value) (G:Nat->List Nat) (w:World) (K:Act->World->Prop),S w->(∀d∈l9 c i,d∈b->D d (V d) (G d) w)->(∀d∈l9 c i,∀k∈l9 c i,d∈b->k∈b->d≠k->∀x∈G d,x ∉ G k) ->
   (∀v g B,S B->Below w.heap.size w B->(∀x∈g,w.heap.size<=x)->D i v g B->K ((ap c b V a1).put (az c i) v) B)->wpOp P c Q i K (ap c b V a1) w)
  (done:∀(V:Nat->Value) (G:Nat->List Nat) (w:World),S w->(∀j∈b,D j (V j) (G j) w)->(∀j∈b,∀k∈b,j≠k->∀x∈G j,x ∉ G k)->rp P c Q S T fuel (kc L b) (ap c b V a1) w) :
  ∀(m:Nat) (a:Array Bool) (V:Nat->Value) (G:Nat->List Nat) (w:World),(b.filter (λr => !a.getD r true)).length=m->a.size=c.size->(∀j,j ∉ b->a[j]?=L[j]?)->pa c a->S w->(∀j∈b,a.getD j true=true->D j (V j) (G j) w) ->
   (∀j∈b,∀k∈b,a.getD j true=true->a.getD k true=true->j≠k->∀x∈G j,x ∉ G k)->rp P c Q S T (m+fuel) a (ap c b V a1) w:=by
 simp only[uc,Xxx,decide_eq_true_eq] at hB;obtain⟨⟨⟨⟨aw,aj⟩,ax⟩,bl⟩,ao⟩:=hB;have s:∀r∈b,r<c.size/\L.getD r true=false:=λr hr=>by
  have:=List.all_eq_true.1 ax r hr
  simpa using this
 intro m
 induction m with
 | zero =>
  intro a V G w hm W J ad hS hD hA;have E:∀r∈b,a.getD r true=true:=λr hr=>by
   cases hq:a.getD r true
   .have:r∈b.filter (λr => !a.getD r true):=List.mem_filter.2 ⟨hr,by simp[hq]⟩;rw[List.length_eq_zero_iff.1 hm] at this;simp at this
   rfl
  have hl:a=kc L b:=by
   apply Array.ext_getElem?
   intro j;by_cases f:j<L.size
   .rw[Ho b L j f];by_cases Y:j∈b
    .rw[if_pos Y];have p:=E j Y;have l:j<a.size:=by omega
     simp only[Array.getD,l,dif_pos] at p;simp[l];exact p
    rw[if_neg Y];exact J j Y
   rw[Array.getElem?_eq_none (by omega),Array.getElem?_eq_none (by rw[Fd];omega)]
  rw[Nat.zero_add,hl];exact done V G w hS (λj f=>hD j f (E j f)) λj f k H=>hA j f k H (E j f) (E k H)
 | succ m ih =>
  intro a V G w hm W J ad hS hD hA;have ak:∃r∈b,a.getD r true=false:=by
   have a5:b.filter (λr => !a.getD r true)≠[]:=λe=>by rw[e] at hm;simp at hm
   obtain⟨x,hx⟩:=List.exists_mem_of_ne_nil _ a5;have:=List.mem_filter.1 hx;exact⟨x,this.1,by simpa using this.2⟩
  have a3:∀d,L.getD d false=true->a.getD d false=true:=λd hd=>by
   by_cases u:d∈b
   .have p:=(s d u).2;have l:d<L.size:=by have:=(s d u).1;omega
    simp only[Array.getD,l,dif_pos] at p hd;rw[p] at hd;cases hd
   have p:=J d u;by_cases l:d<L.size
   .have h3:d<a.size:=by omega
    simp only[Array.getD,l,h3,dif_pos] at hd ⊢;simp only[Array.getElem?_eq_getElem l,Array.getElem?_eq_getElem h3,Qkx] at p;rw[Array.getInternal_eq_getElem] at hd ⊢;rw[p];exact hd
   simp[Array.getD,l] at hd
  obtain⟨r0,bk,au⟩:=Dp W [] b aj a3 (λd hd=>by simp at hd) (λr hr=>(s r hr).1) ak;rw[Nat.add_right_comm];refine⟨λh0=>absurd (h0▸au) (by simp),λi hi => ?_⟩;obtain⟨U,o,ho,ar⟩:=mem_ready.1 hi;have A:∀d∈l9 c i,a.getD d false=true:=λd hd=>by
   unfold l9 at hd;rw[ho] at hd;obtain⟨e,he,rfl⟩:=List.mem_map.1 hd;have:=List.mem_filter.1 he;exact ar e (by simpa using this.1) this.2
  have M:∀d,a.getD d false=true->a.getD d true=true:=λd hd=>by
   by_cases l:d<a.size
   .simpa[Array.getD,l] using hd
   simp[Array.getD,l]
  have F:i∈b:=by
   cases hc:b.contains i;rotate_left
   .exact Qjz hc
   exfalso;have bc:i<c.size:=(Qkq ho).1;have a4:i ∉ b:=λh=>by
    have:=List.contains_iff_mem.2 h;rw[this] at hc;cases hc
   have p:=List.all_eq_true.1 aw i (List.mem_range.2 bc);have bb:L.getD i true=false:=by
    have l:=J i a4;have h3:i<L.size:=by omega
    have h4:i<a.size:=by omega
    simp only[Array.getElem?_eq_getElem h3,Array.getElem?_eq_getElem h4,Qkx] at l;simp only[Array.getD,h3,h4,dif_pos] at U ⊢;rw[Array.getInternal_eq_getElem] at U ⊢;rw[<-l];exact U
   rw[bb,hc] at p;simp only[Bool.false_or] at p;obtain⟨q,hq,a2⟩:=ak;have h5:=List.all_eq_true.1 p q hq;have h6:=M q (yb ad _ i q (Bc hi) h5);rw[a2] at h6;cases h6
  refine step i F V G w _ hS (λd hd u=>hD d u (M d (A d hd))) (λd hd k H u be=>hA d u k be (M d (A d hd)) (M k (A k H))) (λv g B an av al bd => ?_);refine⟨λ_=>an,?_⟩;rw[Dk ao F];have a9:i<a.size:=by rw[W];exact(s i F).1
  have t:∀j,(a.setIfInBounds i true).getD j true=if j=i then true else a.getD j true:=λj=>by
   by_cases f:j=i
   .subst f;simp[Array.getD,a9]
   rw[if_neg f,getD_set_ne true (λe=>f e.symm)]
  refine ih (a.setIfInBounds i true) (upd V i v) (λj=>if j=i then g else G j) B ?_ (by simpa using W) (λj f => ?_) (ad.set hi) an (λj f z => ?_) (λj f k H z X am x hx => ?_)
  .have ae:b.Nodup:=by
    exact(List.pairwise_map.1 ao).imp (λh e=>h (by rw[e]))
   have e1:(b.filter (λr => !a.getD r true))=b.filter (λr => !a.getD r true):=rfl;have ab:(b.filter (λr => !(a.setIfInBounds i true).getD r true))=(b.filter (λr => !a.getD r true)).erase i:=by
    have e2:b.filter (λr => !(a.setIfInBounds i true).getD r true)=(b.filter (λr => !a.getD r true)).filter (λr=>r !=i):=by
     rw[List.filter_filter];refine List.filter_congr λx hx => ?_;rw[t x];by_cases a7:x=i<;>simp[a7]
    rw[e2,<-List.Nodup.erase_eq_filter (ae.filter _)]
   rw[ab,List.length_erase_of_mem (List.mem_filter.2 ⟨F,by simp[U]⟩),hm]
   rfl
  .rw[Array.getElem?_setIfInBounds,if_neg (λe:i=j=>f (by rw[<-e];exact F))];exact J j f
  .unfold upd;by_cases n:j=i
   .subst n;rw[if_pos rfl,if_pos rfl];exact bd
   rw[if_neg n,if_neg n];rw[t j,if_neg n] at z;exact mono j f _ _ _ _ av (hD j f z)
  by_cases n:j=i
  .have y:¬k=i:=λe=>am (n.trans e.symm);rw[if_pos n] at hx;rw[if_neg y];rw[t k,if_neg y] at X;intro ac;have p:=al x hx;have l:=lt k H _ _ _ (hD k H X) x ac;omega
  rw[if_neg n] at hx;rw[t j,if_neg n] at z;by_cases y:k=i
  .rw[if_pos y];intro ac;have p:=al x ac;have l:=lt j f _ _ _ (hD j f z) x hx;omega
  rw[if_neg y];rw[t k,if_neg y] at X;exact hA j f k H z X am x hx
def ads(P:Program)(ops:Array Oper)(Q:Exit->Act->World->Prop)(S:World->Prop)(rem:List Nat)(ord:List (Bool × Nat))(a1:Act):Prop :=
 ∃D:Nat->Value->List Nat->World->Prop,(∀j∈rem,∀v g w w',Below w.heap.size w w'->D j v g w->D j v g w')/\(∀j∈rem,∀v g w,D j v g w->∀x∈g,x<w.heap.size) /\
  (∀i∈rem,∀(V:Nat->Value) (G:Nat->List Nat) (w:World) (K:Act->World->Prop),S w->(∀d∈l9 ops i,d∈rem->D d (V d) (G d) w)->(∀d∈l9 ops i,∀k∈l9 ops i,d∈rem->k∈rem->d≠k->∀x∈G d,x ∉ G k) ->
   (∀v g w',S w'->Below w.heap.size w w'->(∀x∈g,w.heap.size<=x)->D i v g w'->K ((ap ops rem V a1).put (az ops i) v) w')->wpOp P ops (NoPanic Q) i K (ap ops rem V a1) w) /\
  (∀(V:Nat->Value) (G:Nat->List Nat) (w:World),S w->(∀j∈rem,D j (V j) (G j) w)->(∀j∈rem,∀k∈rem,j≠k->∀x∈G j,x ∉ G k)->Ko P ops (NoPanic Q) S ord (ap ops rem V a1) w)
def Ve(ops:Array Oper)(ks rem:List Nat)(ord:List (Bool × Nat)):Bool :=
 ks.all (λk => !ord.contains (true,k)&&ord.all (λx => !x.1||Cp ops ops.size x.2 k))&&rem.all (λr => !ord.contains (true,r))&&ord.all (λx=>x.1 || !ord.contains (true,x.2))
theorem uj{l:List Oper}{a:Act}(S:World->Prop)(e b:List Nat)(d:List (Bool × Nat))(F:S w.drew)(h:wpQuiet P l.toArray S (ads P l.toArray Q S b d) (du l e) a)(J:P.follows .mixedOrders=true:=by kernel_rfl)(hs:Region.noSelect l.toArray=true:=by kernel_rfl)(U:Bv l.toArray e (Array.replicate l.length false)=true:=by kernel_rfl)(x:e.all (λk=>decide (k<l.length))=true:=by kernel_rfl)(hv:((du l e).all Cz)=true:=by kernel_rfl)(E:uc l.toArray b (kc (Array.replicate l.length false) e)=true:=by kernel_rfl)(m:Ve l.toArray e b d=true:=by kernel_rfl)(X:J0 l.toArray d (kc (kc (Array.replicate l.length false) e) b)=true:=by kernel_rfl)(M:e.length+(b.length+d.length)=l.length:=by kernel_rfl):(Code.region R l.toArray true).wp P Q a w:=by
 refine wp_region_noPanic (wp_region_any J ?_);have n:=E;simp only[uc,Xxx,decide_eq_true_eq] at n;simp only[Ve,Xxx] at m;have W:∀j,(d.contains (true,j))=true->(true,j)∈d:=λj h=>by simpa using h
 have key:=wi (Q:=NoPanic Q) (T:=λi=>d.contains (true,i)) (N:=l.toArray.size) (fuel:=b.length+d.length) (w:=w.drew) hs F (λc a a' w h=>(h:False).elim) e (du l e) _ a U (λk B => ?_) (pa.none _ _) (Ei x) hv h (λa1 K A => ?_)
 .have:=zh _ _ _ _ key;rw[M] at this
  simpa using this
 .have q:=List.all_eq_true.1 m.1.1 k B;simp only[Xxx] at q;refine⟨by simpa using q.1,λj g => ?_⟩;have h2:=List.all_eq_true.1 q.2 (true,j) (W j g)
  simpa using h2
 obtain⟨D,mono,lt,step,done⟩:=K;have s:(b.filter (λr => !(kc (Array.replicate l.length false) e).getD r true))=b:=by
  rw[List.filter_eq_self];intro r v;have:=List.all_eq_true.1 n.1.1.2 r v;simp only[Xxx] at this;exact this.2
 have p:∀j∈b,(kc (Array.replicate l.length false) e).getD j true=true->False:=λj g f=>by
  have:=List.all_eq_true.1 n.1.1.2 j g;simp only[Xxx,f] at this;simp at this
 obtain⟨u,z⟩:∃u,ap l.toArray b u a1=a1:=⟨_,z4 a1 b⟩;have:=Zl (P:=P) (Q:=NoPanic Q) (S:=S) (T:=λi=>d.contains (true,i)) (a1:=a1) (fuel:=d.length) E (λr v=>by have:=List.all_eq_true.1 m.1.2 r v;simpa using this) mono lt step
  (λV G y H L Y=>Bk d _ _ y X (λt i o=>by
   cases t with
   | true=>simpa using o
   | false =>
    have:=List.all_eq_true.1 m.2 (false,i) o
    simpa using this) (done V G y H L Y))
  b.length (kc (Array.replicate l.length false) e) u (λ_=>[]) w.drew (by rw[s]) n.1.2 (λ_ _=>rfl) A F (λj g f=>(p j g f).elim) (λj g k B f _ _=>(p j g f).elim)
 rw[z] at this;exact this
theorem po(w:World){l:Array Oper}{rest:List Oper}{o:Oper}{a:Act}(F:o.guard=none)(s x:Operand)(t:TypeId)
  (r:o.op=Op.call { callee:=Callee.builtin Builtin.append,args:=#[s,x],argTypes:=#[t,t] }) (e:TypeId) (i:TypeInfo) (z:Value) (size bytes:Nat) (d:P.underlying t=some (.slice e)) (q:P.info? e=some i) (M:i.zero=some z) (W:i.size=size) (S:i.bytes=bytes)
  (V:z.cells.size=size) (L:0<size) (g:Nat) (hs:a.eval s = .slice (some ⟨g,0,none⟩) 0 0) (f:Option Addr) (m c:Nat) (news:List Value) (hx:a.eval x = .slice f m c) (G:news.length=m*size)
  (hc:∀ad,f=some ad->∀j u,news[j]?=some u->w.cell? (ad.add j)=some u) (E:∀u∈news,u.oneCell'=true) (p:f=none->m=0) (b1:m<=maxLen) (b2:m*bytes<=140737488355328)
  (J:m=0->wpList P l Q rest (a.put o.dst (.slice (some ⟨g,0,none⟩) 0 0)) w) (T:0<m->∀n k,k.ownsRow w.heap.size e size n m news->w.grownBy k none->wpList P l Q rest (a.put o.dst n) k) :
  wpList P l Q (o :: rest) a w:=by
 rcases Nat.eq_zero_or_pos m with D|D
 .subst D;have v:news=[]:=List.eq_nil_of_length_eq_zero (by simpa using G);subst v;have B:Src P i.size t (.slice f 0 c) 0 [] w:=by
   cases f with
   | none=>exact Src.ofNil w d c
   | some ad=>exact Src.ofSlice w d ad 0 c [] (by simp) (λj u A=>by simp at A) (λu U=>by cases U)
  have y:=run_append_nothing (P:=P) w t t o.type e i d q (some ⟨g,0,none⟩) 0 0 nlr _ B;refine wpList_plain F λK H => ?_;unfold Oper.wp;simp[execOp,r,resolve,invoke,builtin,hs,hx,y,Result.andThen];exact H _ _ (J rfl)
 cases f with
 | none=>exact absurd (p rfl) (by omega)
 | some ad =>
  refine wpList_append_grows w F s x t r e i z size bytes d q M W S V L (some ⟨g,0,none⟩) 0 0 [] hs (λh=>by cases h) (by simp) (λb _ j u A=>by simp at A) ad m c news hx G (hc ad rfl) E (by omega) (by omega) (by rw[Nat.zero_add];exact b2) (λn k d q => ?_);rw[Nat.zero_add,Xqx] at d;exact T D n k d q
def oe(A n:Nat)(v:Value)(g:List Nat)(wk:World):Prop:=∃B,g=[B]/\v = .slice (some ⟨B,0,none⟩) n n/\A<=B/\Blk wk B 3 n (λ_ => .int .i64 0)
theorem oe.below{g:List Nat}(h:oe A n v g w)(d:Below w.heap.size w a):oe A n v g a:=by
 obtain⟨B,b,f,e,c⟩:=h;exact⟨B,b,f,e,c.below d⟩
theorem oe.lt{g:List Nat}(h:oe A n v g w):∀x∈g,x<w.heap.size:=by
 obtain⟨B,rfl,c,b,a⟩:=h;intro x hx;rw[List.mem_singleton] at hx;subst hx;exact a.lt
def ym(A:Nat)(v:Value)(g:List Nat)(wk:World):Prop:=∃B,g=[B]/\v = .pointer (some ⟨B,0,none⟩)/\A<=B/\Blk wk B 31 7 (λ_ => .slice .none 0 0)
theorem ym.below{g:List Nat}(h:ym A v g w)(d:Below w.heap.size w a):ym A v g a:=by
 obtain⟨B,b,f,e,c⟩:=h;exact⟨B,b,f,e,c.below d⟩
theorem ym.lt{g:List Nat}(h:ym A v g w):∀x∈g,x<w.heap.size:=by
 obtain⟨B,rfl,c,b,a⟩:=h;intro x hx;rw[List.mem_singleton] at hx;subst hx;exact a.lt
def Gd(A n:Nat)(v:Value)(g:List Nat)(wk:World):Prop:=∃B1 B2 B3,g=[]/\v = .agg #[.slice .none 0 0,.slice .none 0 0,.slice .none 0 0,.slice .none 0 0,.slice (some ⟨B1,0,none⟩) n n,.slice (some ⟨B2,0,none⟩) n n,.slice (some ⟨B3,0,none⟩) n n] /\
 (A<=B1/\Blk wk B1 3 n (λ_ => .int .i64 0))/\(A<=B2/\Blk wk B2 3 n (λ_ => .int .i64 0))/\(A<=B3/\Blk wk B3 3 n (λ_ => .int .i64 0))
theorem Gd.below{g:List Nat}{b:World}(h:Gd A n v g w)(a:Below w.heap.size w b):Gd A n v g b:=by
 obtain⟨j,c,d,f,e,⟨a1,i⟩,⟨b1,b2⟩,⟨c1,c2⟩⟩:=h;exact⟨j,c,d,f,e,⟨a1,i.below a⟩,⟨b1,b2.below a⟩,⟨c1,c2.below a⟩⟩
def Da(A n:Nat)(v:Value)(g:List Nat)(wk:World):Prop:=∃B R,g=[B]/\v = .slice (some ⟨B,0,none⟩) 1 1/\A<=B/\Blk wk B 23 1 (λ_ => .slice (some ⟨R,0,none⟩) n n)/\A<=R/\Blk wk R 3 n (λ_ => .int .i64 0)
theorem Da.below{g:List Nat}{b:World}(h:Da A n v g w)(a:Below w.heap.size w b):Da A n v g b:=by
 obtain⟨B,R,d,c,j,e,i,f⟩:=h;exact⟨B,R,d,c,j,e.below a,i,f.below a⟩
theorem Da.lt{g:List Nat}(h:Da A n v g w):∀x∈g,x<w.heap.size:=by
 obtain⟨B,R,rfl,e,d,a,c,b⟩:=h;intro x hx;rw[List.mem_singleton] at hx;subst hx;exact a.lt
def Fr(n:Nat)(w:World)(s:St):Prop:=∀w'':World,w.heap.size<=w''.heap.size->(∀g,n<=g->g<w.heap.size->w''.heap[g]?=w.heap[g]?)->s.At w''
theorem Fr.at(h:Fr n w s):s.At w:=h w nlr (λ_ _ _=>rfl)
theorem Fr.below{b:World}(h:Fr n w s)(a:Below w.heap.size w b):Fr n b s:=λc e hs=>h c (Qzx a.size e) λg f d=>(hs g f (Xzx d a.size)).trans (a.block g d)
theorem Fr.set(h:Fr n w s)(e:q<n)(j:Nat)(u:Value):Fr n (w.setCell ⟨q,j,none⟩ u) s:=λa b hs=>h a (by simpa using b) λg d c=>(hs g d (by simpa using c)).trans (Below.heap_setCell w ⟨q,j,none⟩ u g (by show g≠q;omega))
theorem ow{base:Nat}{size:Nat}(o:w.ownsRow base e size v n xs)(k:w.grownBy d v.ownBlock){t:TypeId}{m:Nat}(h:Blk w q t m f)(g:t≠e):Blk d q t m f:=by
 refine h.grown k ?_;intro b;rcases o.2 with⟨rfl,_⟩|⟨p,l,j,rfl,_,a,i⟩
 .simp[Value.ownBlock] at b
 simp only[Value.ownBlock,Qkx] at b;subst b;obtain⟨c3,c,_⟩:=h;rw[c] at a;cases a;exact g rfl
theorem vp{base:Nat}{size:Nat}(o:w.ownsRow base e size v n xs){t:TypeId}{m:Nat}(r:Blk w q t m f)(k:t≠e)(j:Nat)(u:Value):(w.setCell ⟨q,j,none⟩ u).ownsRow base e size v n xs:=by
 refine⟨o.1,?_⟩;rcases o.2 with h|⟨l,d,c,rfl,i,a,b⟩
 .exact .inl h
 refine .inr ⟨l,d,c,rfl,i,?_,b⟩;rw[Below.heap_setCell w ⟨q,j,none⟩ u l ?_]
 .exact a
 intro p;obtain⟨c3,g,_⟩:=r;rw[p,g] at a;cases a;exact k rfl
def aah(p:Pl)(A BX B1 B2 B3 k:Nat)(wk:World):Prop:=∃(v:Value) (G:Nat->Nat),Blk wk BX 31 7 (λj=>(#[v,.slice .none 0 0,.slice .none 0 0,.slice .none 0 0,.slice (some ⟨B1,0,none⟩) p.ns p.ns,.slice (some ⟨B2,0,none⟩) p.ns p.ns,.slice (some ⟨B3,0,none⟩) p.ns p.ns]:Array Value).getD j default) /\
 wk.ownsRow A 23 1 v k ((List.range k).map λi=>Value.slice (some ⟨G i,0,none⟩) p.ns p.ns)/\(∀i,i<k->A<=G i/\Blk wk (G i) 3 p.ns (λ_ => .int .i64 0)) /\
 Blk wk B1 3 p.ns (λ_ => .int .i64 0)/\Blk wk B2 3 p.ns (λ_ => .int .i64 0)/\Blk wk B3 3 p.ns (λ_ => .int .i64 0)
theorem Ks(p:Pl)(w:World)(hp:p.At w)(h0:et p=0):
  Calls prog 25 #[p.val] w λe M=>∃s:St,e = .returned s.val/\Fr w.heap.size M s/\td p s/\Below w.heap.size w M:=by
 have capb:=hp.capb;have leb:=hp.leb;have caps:=hp.caps;have les:=hp.les;have R:=Jz h0;have ns3:=R.ns3;have nb6:=R.nb6;have nb1:=R.nb1;clear h0 R;unfold maxLen at capb caps;obtain⟨z,hW,br,X0,Z0⟩:∃W,((w.alloc (.cells #[.slice p.ab p.nb p.cb,.slice p.sa p.ns p.cs] 25)).alloc (.cells #[.slice .none 0 0,.slice .none 0 0,.slice .none 0 0,.slice .none 0 0,.slice .none 0 0,.slice .none 0 0,.slice .none 0 0] 31))=W/\Below w.heap.size w W/\Blk W w.heap.size 25 2 (λj=>(#[.slice p.ab p.nb p.cb,.slice p.sa p.ns p.cs]:Array Value).getD j default)/\Blk W (w.heap.size+1) 31 7 (λ_ => .slice .none 0 0):=
  ⟨_,rfl,ix _ _ _,(Blk.mk' rfl rfl).alloc _,(Blk.mk' (cur:=#[.slice .none 0 0,.slice .none 0 0,.slice .none 0 0,.slice .none 0 0,.slice .none 0 0,.slice .none 0 0,.slice .none 0 0]) (by simp) rfl).congr (λj o=>by match j,o with|0,_=>rfl|1,_=>rfl|2,_=>rfl|3,_=>rfl|4,_=>rfl|5,_=>rfl|6,_=>rfl)⟩
 have HW:Hid ((w.alloc (.cells #[.slice p.ab p.nb p.cb,.slice p.sa p.ns p.cs] 25)).alloc (.cells #[.slice .none 0 0,.slice .none 0 0,.slice .none 0 0,.slice .none 0 0,.slice .none 0 0,.slice .none 0 0,.slice .none 0 0] 31)=z):=hW;have HC:Hid (∀a,Below z.heap.size z a->(w.heap.size<a.heap.size/\a.cell? ⟨w.heap.size,0,none⟩=some (.slice p.ab p.nb p.cb)/\a.cell? ⟨w.heap.size,1,none⟩=some (.slice p.sa p.ns p.cs))/\Blk a (w.heap.size+1) 31 7 (λ_ => .slice .none 0 0)/\Below w.heap.size w a):=
  λa h=>⟨⟨(X0.below h).lt,(X0.below h).k 0,(X0.below h).k 1⟩,Z0.below h,br.trans (h.mono br.size)⟩
 have d4:=Z0.lt;obtain⟨i1,o,au,av,aw⟩:=info_parts Y9;obtain⟨i0,hi,ct,dg,c9⟩:=info_parts Za;have r1:=Qqq (X0.k 1);clear hW X0 Z0 hp;unfold Pl.val;go_enter func25,ntmps25;go_wp2_with fail;rw[HW.out];refine fh (λM=>∃p:Regrown,M=grow (redrawn z p.d) p.os) [0,1,4,5,8,9] [2,3,6,7,10,11,12,13] [(false,14)] (Qqx (brf.drew)) ?_;simp only[du,Qyq,Xqq,Qyx,Qyz,Xqz,Xqx]
 repeat(go_big_quiet_step(fail))
 refine Qqz ?_;refine⟨λj v g a=>match j with|3=>oe z.heap.size p.ns v g a|7=>oe z.heap.size p.ns v g a|11=>oe z.heap.size p.ns v g a|12=>Gd z.heap.size p.ns v g a|13=>ym z.heap.size v g a|_=>g=[]/\v = .int .i64 p.ns,
  Qjx ⟨λv g w M _ h=>h,Qjx ⟨λv g w M J h=>oe.below h J,Qjx ⟨λv g w M _ h=>h,Qjx ⟨λv g w M J h=>oe.below h J,Qjx ⟨λv g w M _ h=>h,Qjx ⟨λv g w M J h=>oe.below h J,Qjx ⟨λv g w M J h=>Gd.below h J,Qjx ⟨λv g w M J h=>ym.below h J,Qjq _⟩⟩⟩⟩⟩⟩⟩⟩,
  Qjx ⟨λv g w h=>by rw[h.1];intro x hx;simp at hx,Qjx ⟨λv g w h=>oe.lt h,Qjx ⟨λv g w h=>by rw[h.1];intro x hx;simp at hx,Qjx ⟨λv g w h=>oe.lt h,Qjx ⟨λv g w h=>by rw[h.1];intro x hx;simp at hx,Qjx ⟨λv g w h=>oe.lt h,Qjx ⟨λv g w h=>by obtain⟨_,_,_,h1,_⟩:=h;rw[h1];intro x hx;simp at hx,Qjx ⟨λv g w h=>ym.lt h,Qjq _⟩⟩⟩⟩⟩⟩⟩⟩,
  Qjx ⟨?zs2,Qjx ⟨?zs3,Qjx ⟨?zs6,Qjx ⟨?zs7,Qjx ⟨?zs10,Qjx ⟨?zs11,Qjx ⟨?zs12,Qjx ⟨?zs13,Qjq _⟩⟩⟩⟩⟩⟩⟩⟩,?zdone⟩
 case zs2 =>
  intro V G a K t hd m;refine aq 2 rfl ?_;simp only[ap,az,Qvz,Qwq,Qvx,Act.put,Qvq,Qwx,Qwz] at m ⊢;go_wp2_with fail;exact m _ [] _ t brf (λx hx=>by simp at hx) ⟨rfl,rfl⟩
 case zs3 =>
  intro V G a K t hd m;have l:=ae t;have h2:G 2=[]/\V 2 = .int .i64 p.ns:=hd 2 (Qjz (by kernel_rfl)) (by simp);refine aq 3 rfl ?_;simp only[ap,az,Qvz,Qwq,Qvx,Act.put,Qvq,Qwx,Qwz,h2.2] at m ⊢;go_wp2_with(at_make;refine wpList_make_full _ rfl _ _ 23 rfl a.heap.size 3 i1 (.int .i64 0) 1 underlying23 o au av .i64 .i64 _ _ p.ns rfl rfl rfl rfl (by rw[aw];omega) (by unfold maxLen;omega) nlr ?_;intro w1 Q F);obtain⟨gq,c',U,_,_,_,A⟩:=Blk.ofOwns Q (by simp);simp only[Value.slice.injEq,Qkx,Qkz,and_true] at U;obtain⟨rfl,-,-⟩:=U;rw[Nat.mul_one] at A;have L:Below a.heap.size a w1:=(Below.refl _ a).grown F nlr (by intro k hk;cases hk);exact m _ [a.heap.size] _ (Qqx (l.trans (L.mono l.size))) L (λx hx=>by rw[List.mem_singleton] at hx;omega) ⟨a.heap.size,rfl,rfl,l.size,A.congr (λj o=>N0 o)⟩
 case zs6 =>
  intro V G a K t hd m;refine aq 6 rfl ?_;simp only[ap,az,Qvz,Qwq,Qvx,Act.put,Qvq,Qwx,Qwz] at m ⊢;go_wp2_with fail;exact m _ [] _ t brf (λx hx=>by simp at hx) ⟨rfl,rfl⟩
 case zs7 =>
  intro V G a K t hd m;have l:=ae t;have h2:G 6=[]/\V 6 = .int .i64 p.ns:=hd 6 (Qjz (by kernel_rfl)) (by simp);refine aq 7 rfl ?_;simp only[ap,az,Qvz,Qwq,Qvx,Act.put,Qvq,Qwx,Qwz,h2.2] at m ⊢;go_wp2_with(at_make;refine wpList_make_full _ rfl _ _ 23 rfl a.heap.size 3 i1 (.int .i64 0) 1 underlying23 o au av .i64 .i64 _ _ p.ns rfl rfl rfl rfl (by rw[aw];omega) (by unfold maxLen;omega) nlr ?_;intro w1 Q F);obtain⟨gq,c',U,_,_,_,A⟩:=Blk.ofOwns Q (by simp);simp only[Value.slice.injEq,Qkx,Qkz,and_true] at U;obtain⟨rfl,-,-⟩:=U;rw[Nat.mul_one] at A;have L:Below a.heap.size a w1:=(Below.refl _ a).grown F nlr (by intro k hk;cases hk);exact m _ [a.heap.size] _ (Qqx (l.trans (L.mono l.size))) L (λx hx=>by rw[List.mem_singleton] at hx;omega) ⟨a.heap.size,rfl,rfl,l.size,A.congr (λj o=>N0 o)⟩
 case zs10 =>
  intro V G a K t hd m;refine aq 10 rfl ?_;simp only[ap,az,Qvz,Qwq,Qvx,Act.put,Qvq,Qwx,Qwz] at m ⊢;go_wp2_with fail;exact m _ [] _ t brf (λx hx=>by simp at hx) ⟨rfl,rfl⟩
 case zs11 =>
  intro V G a K t hd m;have l:=ae t;have h2:G 10=[]/\V 10 = .int .i64 p.ns:=hd 10 (Qjz (by kernel_rfl)) (by simp);refine aq 11 rfl ?_;simp only[ap,az,Qvz,Qwq,Qvx,Act.put,Qvq,Qwx,Qwz,h2.2] at m ⊢;go_wp2_with(at_make;refine wpList_make_full _ rfl _ _ 23 rfl a.heap.size 3 i1 (.int .i64 0) 1 underlying23 o au av .i64 .i64 _ _ p.ns rfl rfl rfl rfl (by rw[aw];omega) (by unfold maxLen;omega) nlr ?_;intro w1 Q F);obtain⟨gq,c',U,_,_,_,A⟩:=Blk.ofOwns Q (by simp);simp only[Value.slice.injEq,Qkx,Qkz,and_true] at U;obtain⟨rfl,-,-⟩:=U;rw[Nat.mul_one] at A;have L:Below a.heap.size a w1:=(Below.refl _ a).grown F nlr (by intro k hk;cases hk);exact m _ [a.heap.size] _ (Qqx (l.trans (L.mono l.size))) L (λx hx=>by rw[List.mem_singleton] at hx;omega) ⟨a.heap.size,rfl,rfl,l.size,A.congr (λj o=>N0 o)⟩
 case zs12 =>
  intro V G a K t hd m;obtain⟨B,-,h1,m1,k1⟩:oe z.heap.size p.ns (V 3) (G 3) a:=hd 3 (Qjz (by kernel_rfl)) (by simp);obtain⟨D,-,h2,m2,k2⟩:oe z.heap.size p.ns (V 7) (G 7) a:=hd 7 (Qjz (by kernel_rfl)) (by simp);obtain⟨E,-,h3,m3,k3⟩:oe z.heap.size p.ns (V 11) (G 11) a:=hd 11 (Qjz (by kernel_rfl)) (by simp);refine aq 12 rfl ?_;simp only[ap,az,Qvz,Qwq,Qvx,Act.put,Qvq,Qwx,Qwz,h1,h2,h3] at m ⊢;go_wp2_with fail;exact m _ [] _ t brf (λx hx=>by simp at hx) ⟨B,D,E,rfl,rfl,⟨m1,k1⟩,⟨m2,k2⟩,⟨m3,k3⟩⟩
 case zs13 =>
  intro V G a K t hd m;have l:=ae t;refine aq 13 rfl ?_;simp only[ap,az,Qvz,Qwq,Qvx,Act.put,Qvq,Qwx,Qwz] at m ⊢;go_wp2_with fail;exact m _ [a.heap.size] _ (Qqx (l.alloc l.size _)) (brf.alloc nlr _) (λx hx=>by rw[List.mem_singleton] at hx;omega) ⟨a.heap.size,rfl,rfl,l.size,(Blk.mk' (cur:=#[.slice .none 0 0,.slice .none 0 0,.slice .none 0 0,.slice .none 0 0,.slice .none 0 0,.slice .none 0 0,.slice .none 0 0]) rfl rfl).congr (λj o=>by match j,o with|0,_=>rfl|1,_=>rfl|2,_=>rfl|3,_=>rfl|4,_=>rfl|5,_=>rfl|6,_=>rfl)⟩
 case zdone =>
  intro V G a t hD hA;obtain⟨B,D,E,-,ca,⟨m1,k1⟩,⟨m2,k2⟩,⟨m3,k3⟩⟩:Gd z.heap.size p.ns (V 12) (G 12) a:=hD 12 (by simp);obtain⟨T,-,bs,mX,r⟩:ym z.heap.size (V 13) (G 13) a:=hD 13 (by simp);have l:=ae t;clear t hD hA r1;have xl:=r.lt;have a7:=r.frozen 0;have bc:=r.k 0;have bv:=r.frozen 1;have zc1:=r.k 1;have bz:=r.frozen 2;have zc2:=r.k 2;have ce:=r.frozen 3;have zc3:=r.k 3;have bx:=r.frozen 4;have zc4:=r.k 4;have bp:=r.frozen 5;have zc5:=r.k 5;have bq:=r.frozen 6;have bw:=r.k 6;simp only[ap,az,Qvz,Qwq,Qvx,Act.put,Qvq,Qwx,Qwz,ca,bs];refine cf 14 rfl ?_;go_wp2_with fail;have KZ:=nl r (.slice .none 0 0) (.slice .none 0 0) (.slice .none 0 0) (.slice .none 0 0) (.slice (some ⟨B,0,none⟩) p.ns p.ns) (.slice (some ⟨D,0,none⟩) p.ns p.ns) (.slice (some ⟨E,0,none⟩) p.ns p.ns);have hb:=j7 l mX (.slice .none 0 0) (.slice .none 0 0) (.slice .none 0 0) (.slice .none 0 0) (.slice (some ⟨B,0,none⟩) p.ns p.ns) (.slice (some ⟨D,0,none⟩) p.ns p.ns) (.slice (some ⟨E,0,none⟩) p.ns p.ns);have ac:=mj k1 (Blk.ne k1 r (by decide)) (.slice .none 0 0) (.slice .none 0 0) (.slice .none 0 0) (.slice .none 0 0) (.slice (some ⟨B,0,none⟩) p.ns p.ns) (.slice (some ⟨D,0,none⟩) p.ns p.ns) (.slice (some ⟨E,0,none⟩) p.ns p.ns);have Y:=mj k2 (Blk.ne k2 r (by decide)) (.slice .none 0 0) (.slice .none 0 0) (.slice .none 0 0) (.slice .none 0 0) (.slice (some ⟨B,0,none⟩) p.ns p.ns) (.slice (some ⟨D,0,none⟩) p.ns p.ns) (.slice (some ⟨E,0,none⟩) p.ns p.ns);have X:=mj k3 (Blk.ne k3 r (by decide)) (.slice .none 0 0) (.slice .none 0 0) (.slice .none 0 0) (.slice .none 0 0) (.slice (some ⟨B,0,none⟩) p.ns p.ns) (.slice (some ⟨D,0,none⟩) p.ns p.ns) (.slice (some ⟨E,0,none⟩) p.ns p.ns);unfold set7 at KZ hb ac Y X
  generalize (((((((a.setCell { block:=T,off:=0 } (Value.slice none 0 0)).setCell { block:=T,off:=1 } (Value.slice none 0 0)).setCell { block:=T,off:=2 } (Value.slice none 0 0)).setCell { block:=T,off:=3 } (Value.slice none 0 0)).setCell { block:=T,off:=4 } (Value.slice (some { block:=B,off:=0 }) p.ns p.ns)).setCell { block:=T,off:=5 } (Value.slice (some { block:=D,off:=0 }) p.ns p.ns)).setCell { block:=T,off:=6 } (Value.slice (some { block:=E,off:=0 }) p.ns p.ns))=WZ at *
  clear r k1 k2 k3 l a7 bc bv zc1 bz zc2 ce zc3 bx zc4 bp zc5 bq bw xl ca bs;refine⟨gy.no (Qqx hb),?_⟩;refine NoPanic.normal ?_;go_wp2_with fail;have bu:Hid (aah p z.heap.size T B D E 0 WZ):=⟨.slice .none 0 0,λ_=>0,KZ,World.ownsRow_nil _ _ _ _,λi hi=>absurd hi (Qzq _),ac,Y,X⟩;clear KZ ac Y X
  go_loopw [4] (λi a=>∃k:Nat,k<=p.nb/\i = .int .i64 k/\Hid (aah p z.heap.size T B D E k a)/\Below z.heap.size z a) (λi _=>p.nb-(intOf i).toNat)
  case atStart=>exact⟨0,Qxz _,rfl,bu,hb⟩
  clear bu hb;obtain⟨k,hk,rfl,HL,J⟩:=hrel;obtain⟨⟨l1,d0,d1⟩,hz,co⟩:=HC.out wr J;by_cases d5:k<p.nb;rotate_left
  .have cu:k=p.nb:=by omega
   subst cu;obtain⟨v,G,r,P,gr,k1,k2,k3⟩:=HL.out;have U:∃g c,v = .slice (some ⟨g,0,none⟩) p.nb c:=by
    rcases P.2 with⟨_,h0⟩|⟨g2,ao,ck,rfl,_⟩
    .omega
    exact⟨g2,ao,rfl⟩
   obtain⟨S,cc,rfl⟩:=U;obtain⟨g',c',b8,da,dd,cy,a9⟩:=Blk.ofOwns P (by simp);simp only[Value.slice.injEq,Qkx,Qkz,and_true,true_and] at b8;obtain⟨rfl,rfl⟩:=b8;rw[Nat.mul_one] at a9;have kg:Blk wr S 23 p.nb (λi => .slice (some ⟨G i,0,none⟩) p.ns p.ns):=a9.congr (λj o=>by simp[o]);have b7:Hid (z.heap.size<=S/\∀i,i<p.nb->z.heap.size<=G i):=⟨cy,λi hi=>(gr i hi).1⟩;have H:Hid (Blk wr S 23 p.nb (λi => .slice (some ⟨G i,0,none⟩) p.ns p.ns)/\(∀i,i<p.nb->Blk wr (G i) 3 p.ns (λ_ => .int .i64 0))/\Blk wr B 3 p.ns (λ_ => .int .i64 0)/\Blk wr D 3 p.ns (λ_ => .int .i64 0)/\Blk wr E 3 p.ns (λ_ => .int .i64 0)):=⟨kg,λi hi=>(gr i hi).2,k1,k2,k3⟩;clear a9 kg;have HZ:=hid hz;have xl:=r.lt;obtain⟨b0,b1,b2,b3,b4,b5,b6⟩:=df r;obtain⟨zl,a7,bc,bv,zc1,bz,zc2,ce,zc3,bx,zc4,bp,zc5,bq,bw⟩:=z7 hz;clear r P gr k1 k2 k3 hz HL;go_wp2_with fail;have KZ:=nl HZ.out (.slice (some ⟨S,0,none⟩) p.nb cc) (.slice .none 0 0) (.slice .none 0 0) (.slice .none 0 0) (.slice (some ⟨B,0,none⟩) p.ns p.ns) (.slice (some ⟨D,0,none⟩) p.ns p.ns) (.slice (some ⟨E,0,none⟩) p.ns p.ns);have cd:=j7 (b:=w.heap.size+1) co (by omega) (.slice (some ⟨S,0,none⟩) p.nb cc) (.slice .none 0 0) (.slice .none 0 0) (.slice .none 0 0) (.slice (some ⟨B,0,none⟩) p.ns p.ns) (.slice (some ⟨D,0,none⟩) p.ns p.ns) (.slice (some ⟨E,0,none⟩) p.ns p.ns);have ai:=mj H.out.1 (Blk.ne H.out.1 HZ.out (by decide)) (.slice (some ⟨S,0,none⟩) p.nb cc) (.slice .none 0 0) (.slice .none 0 0) (.slice .none 0 0) (.slice (some ⟨B,0,none⟩) p.ns p.ns) (.slice (some ⟨D,0,none⟩) p.ns p.ns) (.slice (some ⟨E,0,none⟩) p.ns p.ns);have bd:=λi (hi:i<p.nb)=>mj (H.out.2.1 i hi) (Blk.ne (H.out.2.1 i hi) HZ.out (by decide)) (.slice (some ⟨S,0,none⟩) p.nb cc) (.slice .none 0 0) (.slice .none 0 0) (.slice .none 0 0) (.slice (some ⟨B,0,none⟩) p.ns p.ns) (.slice (some ⟨D,0,none⟩) p.ns p.ns) (.slice (some ⟨E,0,none⟩) p.ns p.ns);have ac:=mj H.out.2.2.1 (Blk.ne H.out.2.2.1 HZ.out (by decide)) (.slice (some ⟨S,0,none⟩) p.nb cc) (.slice .none 0 0) (.slice .none 0 0) (.slice .none 0 0) (.slice (some ⟨B,0,none⟩) p.ns p.ns) (.slice (some ⟨D,0,none⟩) p.ns p.ns) (.slice (some ⟨E,0,none⟩) p.ns p.ns);have Y:=mj H.out.2.2.2.1 (Blk.ne H.out.2.2.2.1 HZ.out (by decide)) (.slice (some ⟨S,0,none⟩) p.nb cc) (.slice .none 0 0) (.slice .none 0 0) (.slice .none 0 0) (.slice (some ⟨B,0,none⟩) p.ns p.ns) (.slice (some ⟨D,0,none⟩) p.ns p.ns) (.slice (some ⟨E,0,none⟩) p.ns p.ns);have X:=mj H.out.2.2.2.2 (Blk.ne H.out.2.2.2.2 HZ.out (by decide)) (.slice (some ⟨S,0,none⟩) p.nb cc) (.slice .none 0 0) (.slice .none 0 0) (.slice .none 0 0) (.slice (some ⟨B,0,none⟩) p.ns p.ns) (.slice (some ⟨D,0,none⟩) p.ns p.ns) (.slice (some ⟨E,0,none⟩) p.ns p.ns);unfold set7 at KZ cd ai bd ac Y X
   generalize (((((((wr.setCell { block:=w.heap.size+1,off:=0 } (Value.slice (some { block:=S,off:=0 }) p.nb cc)).setCell { block:=w.heap.size+1,off:=1 } (Value.slice none 0 0)).setCell { block:=w.heap.size+1,off:=2 } (Value.slice none 0 0)).setCell { block:=w.heap.size+1,off:=3 } (Value.slice none 0 0)).setCell { block:=w.heap.size+1,off:=4 } (Value.slice (some { block:=B,off:=0 }) p.ns p.ns)).setCell { block:=w.heap.size+1,off:=5 } (Value.slice (some { block:=D,off:=0 }) p.ns p.ns)).setCell { block:=w.heap.size+1,off:=6 } (Value.slice (some { block:=E,off:=0 }) p.ns p.ns))=WY at *
   obtain⟨c0,c1,c2,c3,c4,c5,c6⟩:=df KZ;refine Xzq (v:=(⟨⟨some ⟨S,0,none⟩,p.nb,cc,λi=>⟨some ⟨G i,0,none⟩,p.ns,p.ns,λ_=>0⟩⟩,⟨none,0,0,λ_=>⟨0,⟨none,0,0,λ_=>⟨0,0,0,0⟩⟩⟩⟩,⟨none,0,0,λ_=>⟨0,0,0,0⟩⟩,⟨none,0,0,λ_=>⟨0,0,0,0⟩⟩,⟨some ⟨B,0,none⟩,p.ns,p.ns,λ_=>0⟩,⟨some ⟨D,0,none⟩,p.ns,p.ns,λ_=>0⟩,⟨some ⟨E,0,none⟩,p.ns,p.ns,λ_=>0⟩⟩:St).val) (by simp[results,results25,go_sem,St.val,c0,c1,c2,c3,c4,c5,c6]) rfl ?_;refine⟨_,rfl,λd2 d3 an => ?_,⟨rfl,λi hi=>⟨rfl,λj o=>rfl⟩,rfl,rfl,rfl,⟨rfl,λj o=>rfl⟩,⟨rfl,λj o=>rfl⟩,⟨rfl,λj o=>rfl⟩⟩,cd⟩;have q0:=b7.out.1;have ai:=ai.same (an S (by omega) ai.lt);refine⟨⟨da,dd,λi hi => ?_⟩,⟨Nat.le_refl _,Qxz _,λi hi=>absurd hi (Qzq _)⟩,Hs.none _,Hs.none _,C1 (ac.same (an B (by omega) ac.lt)) ns3,C1 (Y.same (an D (by omega) Y.lt)) ns3,C1 (X.same (an E (by omega) X.lt)) ns3⟩;have ax:i<p.nb:=hi;have q1:=b7.out.2 i ax;exact⟨S,0,rfl,ai.lt,by rw[Nat.zero_add];exact ai.cell ax,C1 ((bd i ax).same (an (G i) (by omega) (bd i ax).lt)) ns3⟩
  obtain⟨v,G,r,P,gr,k1,k2,k3⟩:=HL.out;have H:=qa5 P gr k1 k2 k3;have HX:=hid r;have qk:(0:Int)<=(k:Int):=by omega
  have r0:=Qqq (r.k 0);have r1:=Qqq d1;clear r P gr k1 k2 k3 hz;go_wp2_with fail;refine fh (λM=>∃p:Regrown,M=grow (redrawn wr p.d) p.os) [0,1,2,3] [4,5,6] [(true,7),(true,8),(true,9)] (Qqx (brf.drew)) ?_;simp only[du,Qyq,Xqq,Qyx,Qyz,Xqz,Xqx]
  repeat(go_big_quiet_step(fail))
  refine Qqz ?_;refine⟨λj v g a=>match j with|5=>oe wr.heap.size p.ns v g a|6=>Da wr.heap.size p.ns v g a|_=>g=[]/\v = .int .i64 p.ns,
   Qjx ⟨λv g w M _ h=>h,Qjx ⟨λv g w M J h=>oe.below h J,Qjx ⟨λv g w M J h=>Da.below h J,Qjq _⟩⟩⟩,
   Qjx ⟨λv g w h=>by rw[h.1];intro x hx;simp at hx,Qjx ⟨λv g w h=>oe.lt h,Qjx ⟨λv g w h=>Da.lt h,Qjq _⟩⟩⟩,
   Qjx ⟨?zt4,Qjx ⟨?zt5,Qjx ⟨?zt6,Qjq _⟩⟩⟩,?ztdone⟩
  case zt4 =>
   intro V G a K t hd m;refine aq 4 rfl ?_;simp only[ap,az,Qvz,Qwq,Qvx,Act.put,Qvq,Qwx,Qwz] at m ⊢;go_wp2_with fail;exact m _ [] _ t brf (λx hx=>by simp at hx) ⟨rfl,rfl⟩
  case zt5 =>
   intro V G a K t hd m;have l:=ae t;have h2:G 4=[]/\V 4 = .int .i64 p.ns:=hd 4 (Qjz (by kernel_rfl)) (by simp);refine aq 5 rfl ?_;simp only[ap,az,Qvz,Qwq,Qvx,Act.put,Qvq,Qwx,Qwz,h2.2] at m ⊢;go_wp2_with(at_make;refine wpList_make_full _ rfl _ _ 23 rfl a.heap.size 3 i1 (.int .i64 0) 1 underlying23 o au av .i64 .i64 _ _ p.ns rfl rfl rfl rfl (by rw[aw];omega) (by unfold maxLen;omega) nlr ?_;intro w1 Q F);obtain⟨gq,c',U,_,_,_,A⟩:=Blk.ofOwns Q (by simp);simp only[Value.slice.injEq,Qkx,Qkz,and_true] at U;obtain⟨rfl,-,-⟩:=U;rw[Nat.mul_one] at A;have L:Below a.heap.size a w1:=(Below.refl _ a).grown F nlr (by intro k hk;cases hk);exact m _ [a.heap.size] _ (Qqx (l.trans (L.mono l.size))) L (λx hx=>by rw[List.mem_singleton] at hx;omega) ⟨a.heap.size,rfl,rfl,l.size,A.congr (λj o=>N0 o)⟩
  case zt6 =>
   intro V G a K t hd m;have l:=ae t;obtain⟨R,-,h5,m5,k5⟩:oe wr.heap.size p.ns (V 5) (G 5) a:=hd 5 (Qjz (by kernel_rfl)) (by simp);refine aq 6 rfl ?_;simp only[ap,az,Qvz,Qwq,Qvx,Act.put,Qvq,Qwx,Qwz,h5] at m ⊢;go_wp2_with fail;exact m _ [a.heap.size] _ (Qqx (l.alloc l.size _)) (brf.alloc nlr _) (λx hx=>by rw[List.mem_singleton] at hx;omega) ⟨a.heap.size,R,rfl,rfl,l.size,(Blk.mk' (cur:=#[.slice (some ⟨R,0,none⟩) p.ns p.ns]) rfl rfl).congr (λj o=>by match j,o with|0,_=>rfl),m5,k5.alloc _⟩
  case ztdone =>
   intro V G' a t hD hA;obtain⟨BO,R,-,h6,m6,k6,mR,kR⟩:Da wr.heap.size p.ns (V 6) (G' 6) a:=hD 6 (by simp);have l:=ae t;clear t hD hA r0 r1;have P:=j6 H.out.1 l;have b9:=J.trans (l.mono J.size);have s0:=J.size;have s1:=l.size;simp only[ap,az,Qvz,Qwq,Qvx,Act.put,Qvq,Qwx,Qwz,h6];refine cf 7 rfl ?_;go_wp2_with(at_builtin;refine wpList_append_own _ rfl (.tmp 26) (.tmp 31) 26 rfl z.heap.size 23 i0 (.slice none 0 0) 1 24 underlying26 hi ct dg c9 rfl (by decide) _ _ _ rfl P ⟨BO,0,none⟩ 1 1 [.slice (some ⟨R,0,none⟩) p.ns p.ns] rfl rfl ?zc1 ?zc2 ?zc3 ?zc4 ?zc5 ?_)
   case zc1 =>
    intro j u o
    match j,o with
    | 0,o=>simp at o;subst o;exact k6.k 0
   case zc2=>intro u hu;simp at hu;subst hu;rfl
   case zc3=>unfold maxLen;omega
   case zc4=>omega
   case zc5=>omega
   intro v2 w2 al y bn;have a6:=P.lt;have cr:Below z.heap.size z w2:=b9.grown y (by omega) (λq hq=>(a6 q hq).1);have af:=ow P y (HX.out.below l) (by decide);have a4:=ow P y kR (by decide);have ba:=ow P y (H.out.2.2.1.below l) (by decide);have a8:=ow P y (H.out.2.2.2.1.below l) (by decide);have bf:=ow P y (H.out.2.2.2.2.below l) (by decide);have ay:∀i,i<k->z.heap.size<=G i/\Blk w2 (G i) 3 p.ns (λ_ => .int .i64 0):=λi hi=>⟨(H.out.2.1 i hi).1,ow P y ((H.out.2.1 i hi).2.below l) (by decide)⟩;clear P y bn a6 kR k6 l H HX b9 HL;have xl:=af.lt;have a7:=af.frozen 0;have bc:=af.k 0;have ah:∀q n f,Blk w2 q 3 n f->q≠T:=λq n f hq=>Blk.ne hq af (by decide);have dc:=cr.setCell (p:=⟨T,0,none⟩) mX v2;have KB:=af.set 0 v2;have HN:Hid (aah p z.heap.size T B D E (k+1) (w2.setCell ⟨T,0,none⟩ v2)):=by
    refine⟨v2,λi=>if i=k then R else G i,KB.congr (λj o=>by match j,o with|0,_=>rfl|1,_=>rfl|2,_=>rfl|3,_=>rfl|4,_=>rfl|5,_=>rfl|6,_=>rfl),?_,λi hi => ?_,ba.other (ah _ _ _ ba) _,a8.other (ah _ _ _ a8) _,bf.other (ah _ _ _ bf) _⟩
    .have e:(List.range (k+1)).map (λi=>Value.slice (some ⟨if i=k then R else G i,0,none⟩) p.ns p.ns)=((List.range k).map λi=>Value.slice (some ⟨G i,0,none⟩) p.ns p.ns)++[.slice (some ⟨R,0,none⟩) p.ns p.ns]:=by
      rw[List.range_succ,List.map_append]
      congr 1
      .exact List.map_congr_left λi hi=>by have:=List.mem_range.1 hi;simp[show ¬i=k by omega]
      simp
     rw[e];exact vp al af (by decide) _ _
    dsimp only;by_cases bt:i=k
    .rw[if_pos bt];exact⟨by omega,a4.other (ah _ _ _ a4) _⟩
    rw[if_neg bt];exact⟨(ay i (by omega)).1,(ay i (by omega)).2.other (ah _ _ _ (ay i (by omega)).2) _⟩
   have cq:∃g c,v2 = .slice (some ⟨g,0,none⟩) (k+1) c:=by
    rcases al.2 with⟨_,h0⟩|⟨g2,ao,ck,rfl,_⟩
    .omega
    exact⟨g2,ao,rfl⟩
   clear a4 ba a8 bf ay ah KB al af;obtain⟨g2,c2,rfl⟩:=cq;refine l8 ⟨gy.yes,?_⟩;refine cf 8 rfl ?_;go_wp2_with fail;refine⟨gy.yes,?_⟩;refine cf 9 rfl ?_;go_wp2_with fail;refine⟨gy.yes,?_⟩;refine NoPanic.normal ?_;go_wp2_with fail;go_roundw
   case rel=>exact⟨k+1,by omega,by go_num,HN,dc⟩
   case measure=>simp[intOf];omega
def DOn(A:Nat)(s:St)(v:Value)(g:List Nat)(wk:World):Prop:=∃(g0 c0:Nat) (G C:Nat->Nat),v = .slice (some ⟨g0,0,none⟩) s.on.n c0/\A<=g0/\s.on.n<=c0/\c0<=maxLen/\Blk wk g0 23 s.on.n (λi => .slice (some ⟨G i,0,none⟩) (s.on.r i).n (C i)) /\
 (∀i,i<s.on.n->A<=G i/\(s.on.r i).n<=C i/\C i<=maxLen/\Blk wk (G i) 3 (s.on.r i).n (λj => .int .i64 ((s.on.r i).z j)))/\(∀i j,i<j->j<s.on.n->G i<G j)/\g=(List.range s.on.n).map G
theorem DOn.below{g:List Nat}(h:DOn A s v g w)(c:Below w.heap.size w d):DOn A s v g d:=by
 obtain⟨o,f,G,C,j,n,e,b,l,a,m,k⟩:=h;exact⟨o,f,G,C,j,n,e,b,l.below c,λi hi=>⟨(a i hi).1,(a i hi).2.1,(a i hi).2.2.1,(a i hi).2.2.2.below c⟩,m,k⟩
theorem DOn.lt{g:List Nat}(h:DOn A s v g w):∀x∈g,x<w.heap.size:=by
 obtain⟨l,d,G,C,e,k,c,b,f,a,j,rfl⟩:=h;intro x hx;obtain⟨i,hi,rfl⟩:=List.mem_map.1 hx;exact(a i (List.mem_range.1 hi)).2.2.2.lt
def DE(v:Value)(g:List Nat):Prop:=∃B:Nat,g=[]/\v = .slice (some ⟨B,0,none⟩) 0 0
def Lu(A:Nat)(s:St)(v:Value)(g:List Nat)(wk:World):Prop:=g=[]/\∃x2 g2 x6 g6 x10 g10 x14 g14 x18 g18 x22 g22,v = .agg #[x2,.slice .none 0 0,x6,x10,x14,x18,x22]/\DOn A s x2 g2 wk/\DHs A 61 s.hs x6 g6 wk/\DHs A 63 s.ms x10 g10 wk /\
 ku A s.si x14 g14 wk/\ku A s.so x18 g18 wk/\ku A s.sf x22 g22 wk/\(∀x∈g2,x ∉ g14)/\(∀x∈g2,x ∉ g18)/\(∀x∈g2,x ∉ g22)/\(∀x∈g14,x ∉ g18)/\(∀x∈g14,x ∉ g22)/\(∀x∈g18,x ∉ g22)
theorem Lu.below{g:List Nat}{m:World}(h:Lu A s v g w)(i:Below w.heap.size w m):Lu A s v g m:=by
 obtain⟨y,D,z,B,u,k,o,p,t,j,l,q,n,x,a,b,c,d,e,f,r⟩:=h;exact⟨y,D,z,B,u,k,o,p,t,j,l,q,n,x,a.below i,b.below i,c.below i,d.below i,e.below i,f.below i,r⟩
theorem j9.grownO{B:Nat}{r:Rw}{size:Nat}(h:j9 A w r)(l:w.ownsRow B e size v n xs)(j:w.grownBy a v.ownBlock)(b:3≠e):j9 A a r:=by
 obtain⟨g,c,i,d,k,f⟩:=h;exact⟨g,c,i,d,k,ow l j f b⟩
theorem cw.grownO{B:Nat}{t:TypeId}{s:Hs}{size:Nat}(h:cw A t w s)(o:w.ownsRow B e size v n xs)(j:w.grownBy a v.ownBlock)(b:t≠e):cw A t a s:=by
 obtain⟨f,m,k,l⟩:=h;refine⟨f,m,k,λp => ?_⟩;obtain⟨g,c,d,i⟩:=l p;exact⟨g,c,d,ow o j i b⟩
theorem fu.grownO{B:Nat}{t:TypeId}{j:World}{a:Option Addr}{size:Nat}(h:fu A w t i a c)(q:w.ownsRow B e size v n xs)(o:w.grownBy j v.ownBlock)(k:t≠e):fu A j t i a c:=by
 refine h.same λg cur d=>o.block g (Qkq d).1 λf => ?_;rcases q.2 with⟨rfl,_⟩|⟨r,p,m,rfl,_,b,l⟩
 .simp[Value.ownBlock] at f
 simp only[Value.ownBlock,Qkx] at f;subst f;rw[d] at b;cases b;exact k rfl
theorem ai.grownO{B:Nat}{e:World}{size:Nat}(h:ai A w s)(p:s.os.n=0)(d:s.os.c=0)(b:w.ownsRow B 57 size v n xs)(a:w.grownBy e v.ownBlock):ai A e s:=by
 refine⟨?_,λi hi=>(h.rows i hi).grownO b a (by decide),h.rapart,⟨h.os.le,h.os.cap,λo=>absurd o (by omega),λi hi=>absurd hi (by omega),h.os.apart,Or.inl d⟩,h.hs.grownO b a (by decide),h.ms.grownO b a (by decide),h.msr.grownO b a (by decide),h.si.grownO b a (by decide),h.so.grownO b a (by decide),h.sf.grownO b a (by decide),h.aio,h.aif,h.aof,h.ari⟩;obtain⟨g,f,k,l,m,j⟩:=h.on;exact⟨g,f,k,l,m,ow b a j (by decide)⟩
theorem ai.below{b:World}(h:ai A w s)(a:Below w.heap.size w b):ai A b s:=by
 refine⟨?_,λi hi=>(h.rows i hi).below a,h.rapart,h.os.below a,h.hs.below a,h.ms.below a,h.msr.below a,h.si.below a,h.so.below a,h.sf.below a,h.aio,h.aif,h.aof,h.ari⟩;obtain⟨g,e,d,j,f,c⟩:=h.on;exact⟨g,e,d,j,f,c.below a⟩
def My(A:Nat)(s:St)(Ls:Nat->Od)(i:Nat)(wk:World):Prop:=(Ls i).k=(s.os.z i).k/\(Ls i).ls.n=(s.os.z i).ls.n/\(∀j,j<(s.os.z i).ls.n->(Ls i).ls.z j=(s.os.z i).ls.z j)/\∃B,(Ls i).ls.a=some ⟨B,0,none⟩/\A<=B/\(Ls i).ls.n<=(Ls i).ls.c/\(Ls i).ls.c<=maxLen/\Blk wk B 59 ((Ls i).ls.n*4) (λj=>(ay (Ls i).ls.n (Ls i).ls.z).getD j default)
def aap(A A0:Nat)(s s0:St)(BX k:Nat)(wk:World):Prop:=∃(v:Value) (Ls:Nat->Od),Blk wk BX 31 7 (λj=>(#[.slice s0.on.a s0.on.n s0.on.c,v,.slice s0.hs.a s0.hs.n s0.hs.c,.slice s0.ms.a s0.ms.n s0.ms.c,.slice s0.si.a s0.si.n s0.si.c,.slice s0.so.a s0.so.n s0.so.c,.slice s0.sf.a s0.sf.n s0.sf.c]:Array Value).getD j default) /\
 wk.ownsRow A0 57 2 v k (jq k Ls)/\(∀i,i<k->My A s Ls i wk)/\(∀i j,i<j->j<k->(Ls i).ls.a≠(Ls j).ls.a)/\ai A wk s0
def D16(A:Nat)(x:Od)(v:Value)(g:List Nat)(wk:World):Prop:=∃s':Hs,g=[]/\v = .agg #[.int .i64 x.k,.slice s'.a s'.n s'.c]/\qm A 59 x.ls wk s'
theorem D16.below{x:Od}{g:List Nat}(h:D16 A x v g w)(b:Below w.heap.size w a):D16 A x v g a:=by
 obtain⟨i,k,j,d,f,e,c⟩:=h;exact⟨i,k,j,d,f,e.below b,c.below b⟩
def D17(A:Nat)(x:Od)(v:Value)(g:List Nat)(wk:World):Prop:=∃(B:Nat) (s':Hs),g=[]/\v = .slice (some ⟨B,0,none⟩) 1 1/\A<=B/\Blk wk B 57 2 (λj=>(#[.int .i64 x.k,.slice s'.a s'.n s'.c]:Array Value).getD j default)/\qm A 59 x.ls wk s'
theorem D17.below{x:Od}{g:List Nat}{b:World}(h:D17 A x v g w)(a:Below w.heap.size w b):D17 A x v g b:=by
 obtain⟨B,l,e,m,i,k,j,f,d,c⟩:=h;exact⟨B,l,e,m,i,k.below a,j,f,d.below a,c.below a⟩
theorem Cj{B:Nat}{s:Hs}(u:0<s.n)(d:w.ownsRow B e 4 v s.n (ay s.n s.z))(f:A<=B):∃b:Hs,v = .slice b.a b.n b.c/\qm A e s w b:=by
 have i:v ≠ .slice none 0 0:=by
  rintro rfl;rcases d.2 with⟨_,r⟩|⟨t,m,g,h,_⟩
  .omega
  cases h
 obtain⟨b,k,q,l,p,o⟩:=cw.ofOwns d i;exact⟨b,k,q,λj _=>by rw[l],p.mono f,o.mono f⟩
theorem Kx{s:Hs}(B:Nat)(a:s.n=0):qm A e s w ⟨some ⟨B,0,none⟩,0,0,s.z⟩:=⟨a.symm,λj b=>rfl,⟨Nat.le_refl _,Qxz _,(λh=>by cases h),λh=>absurd h (Nat.lt_irrefl _)⟩,Or.inl rfl⟩
theorem Kh{s:Hs}(h:s.At w):∀d,s.a=some d->∀j u,(ay s.n s.z)[j]?=some u->w.cell? (d.add j)=some u:=λd i j u g=>by
 have f:=(List.getElem?_eq_some_iff.1 g).1;rw[eu] at f;have c:=h.hds;obtain⟨b,o,e,k,-⟩:=c 0 (by omega);rw[i] at e;simp only[Qkx] at e;subst e;rw[i] at c;exact jj.news c j u g
theorem O8{s:Hs}(h:s.At w)(b:s.a=none):s.n=0:=by
 have:=h.nilc b;have:=h.le;omega
theorem Jk{B:Nat}{r:Rw}(s:0<r.n)(a:w.ownsRow B 3 1 v r.n ((List.range r.n).map λj=>Value.int .i64 (r.z j)))(o:A<=B):∃g c,v = .slice (some ⟨g,0,none⟩) r.n c/\B<=g/\ku A r v [g] w:=by
 have f:v ≠ .slice none 0 0:=by
  rintro rfl;rcases a.2 with⟨_,p⟩|⟨q,l,d,h,_⟩
  .omega
  cases h
 obtain⟨g,c,rfl,i,m,k,b⟩:=Blk.ofOwns a f;rw[Nat.mul_one] at b;exact⟨g,c,rfl,k,g,c,rfl,rfl,by omega,i,m,b.congr (λj e=>by simp[e])⟩
theorem Ph{r:Rw}(h:r.At w):∀d,r.a=some d->∀j u,((List.range r.n).map λj=>Value.int .i64 (r.z j))[j]?=some u->w.cell? (d.add j)=some u:=λd g j u e=>by
 have c:j<r.n:=by
  have:=(List.getElem?_eq_some_iff.1 e).1
  simpa using this
 obtain⟨b,o,f,i,hc⟩:=h.ints j c;rw[g] at f;simp only[Qkx] at f;subst f;rw[Go.WideShapes.add_plain,hc];simp[c] at e;rw[e]
theorem Pi{r:Rw}(h:r.At w)(e:r.a=none):r.n=0:=by
 rcases Nat.eq_zero_or_pos r.n with c|c
 .exact c
 obtain⟨b,o,d,_⟩:=h.ints 0 c;rw[e] at d;cases d
theorem pd(p:Pl)(s:St)(w:World)(hs:s.At w)(f:cx p s):
  Calls prog 20 #[s.val] w λe w'=>∃J:St,e = .returned J.val/\af J s/\ai w.heap.size w' J/\Below w.heap.size w w':=by
 obtain⟨W0,hW,bh,X0,Z0⟩:∃W,((w.alloc (.cells s.cells 31)).alloc (.cells #[.slice .none 0 0,.slice .none 0 0,.slice .none 0 0,.slice .none 0 0,.slice .none 0 0,.slice .none 0 0,.slice .none 0 0] 31))=W/\Below w.heap.size w W/\Blk W w.heap.size 31 7 (λj=>s.cells.getD j default)/\Blk W (w.heap.size+1) 31 7 (λ_ => .slice .none 0 0):=
  ⟨_,rfl,ix _ _ _,(Blk.mk' rfl rfl).alloc _,(Blk.mk' (cur:=#[.slice .none 0 0,.slice .none 0 0,.slice .none 0 0,.slice .none 0 0,.slice .none 0 0,.slice .none 0 0,.slice .none 0 0]) (by simp) rfl).congr (λj y=>by match j,y with|0,_=>rfl|1,_=>rfl|2,_=>rfl|3,_=>rfl|4,_=>rfl|5,_=>rfl|6,_=>rfl)⟩
 have HW:Hid ((w.alloc (.cells #[.slice s.on.a s.on.n s.on.c,.slice s.os.a s.os.n s.os.c,.slice s.hs.a s.hs.n s.hs.c,.slice s.ms.a s.ms.n s.ms.c,.slice s.si.a s.si.n s.si.c,.slice s.so.a s.so.n s.so.c,.slice s.sf.a s.sf.n s.sf.c] 31)).alloc (.cells #[.slice .none 0 0,.slice .none 0 0,.slice .none 0 0,.slice .none 0 0,.slice .none 0 0,.slice .none 0 0,.slice .none 0 0] 31)=W0):=hW;have HS:=hid (hs.below bh);have HF:=hid f;have HC:Hid (∀l,Below W0.heap.size W0 l->Boxed l w.heap.size s/\Blk l (w.heap.size+1) 31 7 (λ_ => .slice .none 0 0)/\s.At l/\Below w.heap.size w l):=λl h=>⟨Boxed.of (X0.below h),Z0.below h,(hs.below bh).below h,bh.trans (h.mono bh.size)⟩;have g9:=bh.size;have il:=Z0.lt;have ns1:=f.sh.pl.ns1;have ns3:=f.sh.pl.ns3;have ij:=f.hs72;have ms8:=f.ms8;obtain⟨l1,U,c1,c2,c3,c4,c5,c6⟩:=Boxed.of X0;have r0:=Qqq U;have r2:=Qqq c2;have r3:=Qqq c3;have r4:=Qqq c4;have r5:=Qqq c5;have r6:=Qqq c6;obtain⟨iI,hI,ck,ch,cc⟩:=info_parts Du;obtain⟨iH,hH,gf,gg,gn⟩:=info_parts Jj;obtain⟨iM,hM,fh,fo,f0⟩:=info_parts Qd;obtain⟨iL,hL,fe,fp,ex⟩:=info_parts Cv;obtain⟨iO,hO,fa,e8,f7⟩:=info_parts De;clear hW X0 Z0 hs f U c1 c2 c3 c4 c5 c6;unfold St.val;go_enter func20,ntmps20;go_wp2_with fail;rw[HW.out];refine uj (λw'=>∃p:Regrown,w'=grow (redrawn W0 p.d) p.os) [0,1,4,5,8,9,12,13,16,17,20,21] [2,3,6,7,10,11,14,15,18,19,22,23,24] [(false,25)] (Qqx (brf.drew)) ?_;simp only[du,Qyq,Xqq,Qyx,Qyz,Xqz,Xqx]
 repeat(go_big_quiet_step(fail))
 refine Qqz ?_;clear r0 r2 r3 r4 r5 r6;refine⟨λj v g l=>match j with|2=>DOn w.heap.size s v g l|6=>DHs w.heap.size 61 s.hs v g l|10=>DHs w.heap.size 63 s.ms v g l|14=>ku w.heap.size s.si v g l|18=>ku w.heap.size s.so v g l|22=>ku w.heap.size s.sf v g l|23=>Lu w.heap.size s v g l|24=>ym W0.heap.size v g l|_=>DE v g,
  ?zmono,?zlow,?zstep,?zdone⟩
 case zmono =>
  intro j y v g w w' hB h;simp only[List.mem_cons,List.not_mem_nil,or_false] at y;rcases y with rfl|rfl|rfl|rfl|rfl|rfl|rfl|rfl|rfl|rfl|rfl|rfl|rfl
  .exact DOn.below h hB
  .exact h
  .exact DHs.below h hB
  .exact h
  .exact DHs.below h hB
  .exact h
  .exact ku.below h hB
  .exact h
  .exact ku.below h hB
  .exact h
  .exact ku.below h hB
  .exact Lu.below h hB
  exact ym.below h hB
 case zlow =>
  intro j y v g w h;simp only[List.mem_cons,List.not_mem_nil,or_false] at y;rcases y with rfl|rfl|rfl|rfl|rfl|rfl|rfl|rfl|rfl|rfl|rfl|rfl|rfl
  .exact DOn.lt h
  .obtain⟨_,Q,_⟩:=h;rw[Q];intro x hx;simp at hx
  .obtain⟨_,Q,_⟩:=h;rw[Q];intro x hx;simp at hx
  .obtain⟨_,Q,_⟩:=h;rw[Q];intro x hx;simp at hx
  .obtain⟨_,Q,_⟩:=h;rw[Q];intro x hx;simp at hx
  .obtain⟨_,Q,_⟩:=h;rw[Q];intro x hx;simp at hx
  .exact ku.lt h
  .obtain⟨_,Q,_⟩:=h;rw[Q];intro x hx;simp at hx
  .exact ku.lt h
  .obtain⟨_,Q,_⟩:=h;rw[Q];intro x hx;simp at hx
  .exact ku.lt h
  .obtain⟨Q,_⟩:=h;rw[Q];intro x hx;simp at hx
  exact ym.lt h
 case zstep =>
  intro i hi;simp only[List.mem_cons,List.not_mem_nil,or_false] at hi;rcases hi with rfl|rfl|rfl|rfl|rfl|rfl|rfl|rfl|rfl|rfl|rfl|rfl|rfl
  .intro V G l K t hd H o;have m:=ae t;have q:=m.size;refine aq 2 rfl ?_;simp only[ap,az,Qvz,Qwq,Qvx,Act.put,Qvq,Qwx,Qwz] at o ⊢;go_wp2_with fail;refine(Zr s.on l (HS.out.on.below m) (by rw[HF.out.sh.n];exact HF.out.sh.pl.nb6) (by rw[HF.out.sh.n];exact HF.out.sh.pl.nb1) (λi hi=>by rw[HF.out.sh.len i hi];exact⟨ns1,ns3⟩)).mono ?_;rintro e w2 ⟨g0,U,Gr,Cr,rfl,a1,bp,be,a2,a3,a4,dv⟩;go_wp2_with fail;refine o _ ((List.range s.on.n).map Gr) _ (Qqx (m.trans (dv.mono m.size))) dv (λx hx => ?_) ⟨g0,U,Gr,Cr,rfl,by omega,bp,be,a2,λi hi=>⟨by have:=(a3 i hi).1;omega,(a3 i hi).2⟩,a4,rfl⟩;obtain⟨i,hi,rfl⟩:=List.mem_map.1 hx;exact(a3 i (List.mem_range.1 hi)).1
  .intro V G l K t hd H o;have m:=ae t;refine aq 3 rfl ?_;simp only[ap,az,Qvz,Qwq,Qvx,Act.put,Qvq,Qwx,Qwz] at o ⊢;go_wp2_with fail;exact o _ [] _ (Qqx (m.alloc m.size _)) (brf.alloc nlr _) (λx hx=>by simp at hx) ⟨l.heap.size,rfl,rfl⟩
  .intro V G l K t hd H o;have m:=ae t;have q:=m.size;obtain⟨B,-,h3⟩:DE (V 3) (G 3):=hd 3 (Qjz (by kernel_rfl)) (by simp);refine aq 6 rfl ?_;simp only[ap,az,Qvz,Qwq,Qvx,Act.put,Qvq,Qwx,Qwz,h3] at o ⊢;go_wp2_with(at_builtin;refine po l rfl (.tmp 8) (.tmp 10) 28 rfl 61 iH (.agg #[.int .i64 0,.int .i64 0,.int .i64 0,.int .i64 0]) 4 32 underlying28 hH gf gg gn rfl (by decide) B rfl s.hs.a s.hs.n s.hs.c (ay s.hs.n s.hs.z) rfl (by rw[eu]) (Kh (HS.out.hs.below m)) (mw _ _) (O8 (HS.out.hs.below m)) (by unfold maxLen;omega) (by omega) ?_ ?_)
   .intro F;exact l8 (o _ [] _ t brf (λx hx=>by simp at hx) ⟨⟨some ⟨B,0,none⟩,0,0,s.hs.z⟩,rfl,rfl,Kx B F⟩)
   intro F v' w1 S E;have L:Below l.heap.size l w1:=(Below.refl _ l).grown E nlr (by intro k hk;cases hk);obtain⟨J,rfl,hc⟩:=Cj (A:=w.heap.size) F S (by omega);exact l8 (o _ [] _ (Qqx (m.trans (L.mono m.size))) L (λx hx=>by simp at hx) ⟨J,rfl,rfl,hc⟩)
  .intro V G l K t hd H o;have m:=ae t;refine aq 7 rfl ?_;simp only[ap,az,Qvz,Qwq,Qvx,Act.put,Qvq,Qwx,Qwz] at o ⊢;go_wp2_with fail;exact o _ [] _ (Qqx (m.alloc m.size _)) (brf.alloc nlr _) (λx hx=>by simp at hx) ⟨l.heap.size,rfl,rfl⟩
  .intro V G l K t hd H o;have m:=ae t;have q:=m.size;obtain⟨B,-,h3⟩:DE (V 7) (G 7):=hd 7 (Qjz (by kernel_rfl)) (by simp);refine aq 10 rfl ?_;simp only[ap,az,Qvz,Qwq,Qvx,Act.put,Qvq,Qwx,Qwz,h3] at o ⊢;go_wp2_with(at_builtin;refine po l rfl (.tmp 12) (.tmp 14) 29 rfl 63 iM (.agg #[.int .i64 0,.int .i64 0,.int .i64 0,.int .i64 0]) 4 32 underlying29 hM fh fo f0 rfl (by decide) B rfl s.ms.a s.ms.n s.ms.c (ay s.ms.n s.ms.z) rfl (by rw[eu]) (Kh (HS.out.ms.below m)) (mw _ _) (O8 (HS.out.ms.below m)) (by unfold maxLen;omega) (by omega) ?_ ?_)
   .intro F;exact l8 (o _ [] _ t brf (λx hx=>by simp at hx) ⟨⟨some ⟨B,0,none⟩,0,0,s.ms.z⟩,rfl,rfl,Kx B F⟩)
   intro F v' w1 S E;have L:Below l.heap.size l w1:=(Below.refl _ l).grown E nlr (by intro k hk;cases hk);obtain⟨J,rfl,hc⟩:=Cj (A:=w.heap.size) F S (by omega);exact l8 (o _ [] _ (Qqx (m.trans (L.mono m.size))) L (λx hx=>by simp at hx) ⟨J,rfl,rfl,hc⟩)
  .intro V G l K t hd H o;have m:=ae t;refine aq 11 rfl ?_;simp only[ap,az,Qvz,Qwq,Qvx,Act.put,Qvq,Qwx,Qwz] at o ⊢;go_wp2_with fail;exact o _ [] _ (Qqx (m.alloc m.size _)) (brf.alloc nlr _) (λx hx=>by simp at hx) ⟨l.heap.size,rfl,rfl⟩
  .intro V G l K t hd H o;have m:=ae t;have q:=m.size;obtain⟨B,-,h3⟩:DE (V 11) (G 11):=hd 11 (Qjz (by kernel_rfl)) (by simp);have HN:=hid HF.out.sin;refine aq 14 rfl ?_;simp only[ap,az,Qvz,Qwq,Qvx,Act.put,Qvq,Qwx,Qwz,h3] at o ⊢;go_wp2_with(at_builtin;refine po l rfl (.tmp 16) (.tmp 18) 23 rfl 3 iI (.int .i64 0) 1 8 underlying23 hI ck ch cc rfl (by decide) B rfl s.si.a s.si.n s.si.c ((List.range s.si.n).map λj=>Value.int .i64 (s.si.z j)) rfl (by simp) (Ph (HS.out.si.below m)) (λu hu=>by obtain⟨x,_,rfl⟩:=List.mem_map.1 hu;rfl) (Pi (HS.out.si.below m)) (by rw[HN.out];unfold maxLen;omega) (by rw[HN.out];omega) ?_ ?_)
   .intro F;exact absurd F (by rw[HN.out];omega)
   intro F v' w1 S E;have L:Below l.heap.size l w1:=(Below.refl _ l).grown E nlr (by intro k hk;cases hk);obtain⟨gi,ci,rfl,dx,bg⟩:=Jk (A:=w.heap.size) F S (by omega);exact l8 (o _ [gi] _ (Qqx (m.trans (L.mono m.size))) L (λx hx=>by rw[List.mem_singleton] at hx;omega) bg)
  .intro V G l K t hd H o;have m:=ae t;refine aq 15 rfl ?_;simp only[ap,az,Qvz,Qwq,Qvx,Act.put,Qvq,Qwx,Qwz] at o ⊢;go_wp2_with fail;exact o _ [] _ (Qqx (m.alloc m.size _)) (brf.alloc nlr _) (λx hx=>by simp at hx) ⟨l.heap.size,rfl,rfl⟩
  .intro V G l K t hd H o;have m:=ae t;have q:=m.size;obtain⟨B,-,h3⟩:DE (V 15) (G 15):=hd 15 (Qjz (by kernel_rfl)) (by simp);have HN:=hid HF.out.son;refine aq 18 rfl ?_;simp only[ap,az,Qvz,Qwq,Qvx,Act.put,Qvq,Qwx,Qwz,h3] at o ⊢;go_wp2_with(at_builtin;refine po l rfl (.tmp 20) (.tmp 22) 23 rfl 3 iI (.int .i64 0) 1 8 underlying23 hI ck ch cc rfl (by decide) B rfl s.so.a s.so.n s.so.c ((List.range s.so.n).map λj=>Value.int .i64 (s.so.z j)) rfl (by simp) (Ph (HS.out.so.below m)) (λu hu=>by obtain⟨x,_,rfl⟩:=List.mem_map.1 hu;rfl) (Pi (HS.out.so.below m)) (by rw[HN.out];unfold maxLen;omega) (by rw[HN.out];omega) ?_ ?_)
   .intro F;exact absurd F (by rw[HN.out];omega)
   intro F v' w1 S E;have L:Below l.heap.size l w1:=(Below.refl _ l).grown E nlr (by intro k hk;cases hk);obtain⟨gi,ci,rfl,dx,bg⟩:=Jk (A:=w.heap.size) F S (by omega);exact l8 (o _ [gi] _ (Qqx (m.trans (L.mono m.size))) L (λx hx=>by rw[List.mem_singleton] at hx;omega) bg)
  .intro V G l K t hd H o;have m:=ae t;refine aq 19 rfl ?_;simp only[ap,az,Qvz,Qwq,Qvx,Act.put,Qvq,Qwx,Qwz] at o ⊢;go_wp2_with fail;exact o _ [] _ (Qqx (m.alloc m.size _)) (brf.alloc nlr _) (λx hx=>by simp at hx) ⟨l.heap.size,rfl,rfl⟩
  .intro V G l K t hd H o;have m:=ae t;have q:=m.size;obtain⟨B,-,h3⟩:DE (V 19) (G 19):=hd 19 (Qjz (by kernel_rfl)) (by simp);have HN:=hid HF.out.sfn;refine aq 22 rfl ?_;simp only[ap,az,Qvz,Qwq,Qvx,Act.put,Qvq,Qwx,Qwz,h3] at o ⊢;go_wp2_with(at_builtin;refine po l rfl (.tmp 24) (.tmp 26) 23 rfl 3 iI (.int .i64 0) 1 8 underlying23 hI ck ch cc rfl (by decide) B rfl s.sf.a s.sf.n s.sf.c ((List.range s.sf.n).map λj=>Value.int .i64 (s.sf.z j)) rfl (by simp) (Ph (HS.out.sf.below m)) (λu hu=>by obtain⟨x,_,rfl⟩:=List.mem_map.1 hu;rfl) (Pi (HS.out.sf.below m)) (by rw[HN.out];unfold maxLen;omega) (by rw[HN.out];omega) ?_ ?_)
   .intro F;exact absurd F (by rw[HN.out];omega)
   intro F v' w1 S E;have L:Below l.heap.size l w1:=(Below.refl _ l).grown E nlr (by intro k hk;cases hk);obtain⟨gi,ci,rfl,dx,bg⟩:=Jk (A:=w.heap.size) F S (by omega);exact l8 (o _ [gi] _ (Qqx (m.trans (L.mono m.size))) L (λx hx=>by rw[List.mem_singleton] at hx;omega) bg)
  rotate_left
  .intro V G l K t hd H o;have m:=ae t;refine aq 24 rfl ?_;simp only[ap,az,Qvz,Qwq,Qvx,Act.put,Qvq,Qwx,Qwz] at o ⊢;go_wp2_with fail;exact o _ [l.heap.size] _ (Qqx (m.alloc m.size _)) (brf.alloc nlr _) (λx hx=>by rw[List.mem_singleton] at hx;omega) ⟨l.heap.size,rfl,rfl,m.size,(Blk.mk' (cur:=#[.slice .none 0 0,.slice .none 0 0,.slice .none 0 0,.slice .none 0 0,.slice .none 0 0,.slice .none 0 0,.slice .none 0 0]) rfl rfl).congr (λj y=>by match j,y with|0,_=>rfl|1,_=>rfl|2,_=>rfl|3,_=>rfl|4,_=>rfl|5,_=>rfl|6,_=>rfl)⟩
  intro V G l K t hd H o;have e2:DOn w.heap.size s (V 2) (G 2) l:=hd 2 (Qjz (by kernel_rfl)) (by simp);have e6:DHs w.heap.size 61 s.hs (V 6) (G 6) l:=hd 6 (Qjz (by kernel_rfl)) (by simp);have d0:DHs w.heap.size 63 s.ms (V 10) (G 10) l:=hd 10 (Qjz (by kernel_rfl)) (by simp);have dl:ku w.heap.size s.si (V 14) (G 14) l:=hd 14 (Qjz (by kernel_rfl)) (by simp);have db:ku w.heap.size s.so (V 18) (G 18) l:=hd 18 (Qjz (by kernel_rfl)) (by simp);have dm:ku w.heap.size s.sf (V 22) (G 22) l:=hd 22 (Qjz (by kernel_rfl)) (by simp);have HD:Hid (Lu w.heap.size s (.agg #[V 2,.slice .none 0 0,V 6,V 10,V 14,V 18,V 22]) [] l):=⟨rfl,V 2,G 2,V 6,G 6,V 10,G 10,V 14,G 14,V 18,G 18,V 22,G 22,rfl,e2,e6,d0,dl,db,dm,H 2 (Qjz (by kernel_rfl)) 14 (Qjz (by kernel_rfl)) (by simp) (by simp) (by decide),H 2 (Qjz (by kernel_rfl)) 18 (Qjz (by kernel_rfl)) (by simp) (by simp) (by decide),H 2 (Qjz (by kernel_rfl)) 22 (Qjz (by kernel_rfl)) (by simp) (by simp) (by decide),H 14 (Qjz (by kernel_rfl)) 18 (Qjz (by kernel_rfl)) (by simp) (by simp) (by decide),H 14 (Qjz (by kernel_rfl)) 22 (Qjz (by kernel_rfl)) (by simp) (by simp) (by decide),H 18 (Qjz (by kernel_rfl)) 22 (Qjz (by kernel_rfl)) (by simp) (by simp) (by decide)⟩;obtain⟨g0,U,Gr,Cr,v2,-⟩:=e2;obtain⟨D,-,v6,-⟩:=e6;obtain⟨m',-,d9,-⟩:=d0;obtain⟨T,k1,-,d4,-⟩:=dl;obtain⟨X,k2,-,dr,-⟩:=db;obtain⟨Y,k3,-,dh,-⟩:=dm;have cm:=HD.out;rw[v2,v6,d9,d4,dr,dh] at cm;have et:=hid cm;clear HD cm H hd;refine aq 23 rfl ?_;simp only[ap,az,Qvz,Qwq,Qvx,Act.put,Qvq,Qwx,Qwz,v2,v6,d9,d4,dr,dh] at o ⊢;go_wp2_with fail;exact o _ [] _ t brf (λx hx=>by simp at hx) et.out
 case zdone =>
  intro V G l t hD H;obtain⟨-,x2,g2,x6,g6,ib,ip,ik,ig,io,h9,ii,ih,ds,⟨g0,U,Gr,Cr,rfl,a1,bp,be,a2,a3,a4,rfl⟩,⟨D,-,rfl,d1,d2,d3,-⟩,⟨m',-,rfl,f1,f2,f3,f4⟩,⟨T,k1,rfl,rfl,i1,i2,i3,i4⟩,⟨X,k2,rfl,rfl,j1,j2,j3,j4⟩,⟨Y,k3,rfl,rfl,l2,l3,l4,l5⟩,n1,n2,n3,n4,n5,n6⟩:Lu w.heap.size s (V 23) (G 23) l:=hD 23 (by simp);obtain⟨BX,-,dq,mX,P⟩:ym W0.heap.size (V 24) (G 24) l:=hD 24 (by simp);have m:=ae t;have n12:T≠X:=λe=>n4 T (by simp) (by rw[e];simp);have d7:T≠Y:=λe=>n5 T (by simp) (by rw[e];simp);have dt:X≠Y:=λe=>n6 X (by simp) (by rw[e];simp);have nr:∀i,i<s.on.n->Gr i≠T/\Gr i≠X/\Gr i≠Y:=λi hi=>by
   have hm:Gr i∈(List.range s.on.n).map Gr:=List.mem_map.2 ⟨i,List.mem_range.2 hi,rfl⟩;exact⟨λe=>n1 _ hm (by rw[e];simp),λe=>n2 _ hm (by rw[e];simp),λe=>n3 _ hm (by rw[e];simp)⟩
  have HR:Hid (ai w.heap.size l ⟨⟨some ⟨g0,0,none⟩,s.on.n,U,λi=>⟨some ⟨Gr i,0,none⟩,(s.on.r i).n,Cr i,(s.on.r i).z⟩⟩,⟨none,0,0,λ_=>⟨0,⟨none,0,0,λ_=>⟨0,0,0,0⟩⟩⟩⟩,D,m',⟨some ⟨T,0,none⟩,s.si.n,k1,s.si.z⟩,⟨some ⟨X,0,none⟩,s.so.n,k2,s.so.z⟩,⟨some ⟨Y,0,none⟩,s.sf.n,k3,s.sf.z⟩⟩):=by
   refine⟨⟨g0,rfl,a1,bp,be,a2⟩,λi hi=>⟨Gr i,rfl,(a3 i hi).1,(a3 i hi).2.1,(a3 i hi).2.2.1,(a3 i hi).2.2.2⟩,λi j bq y => ?_,⟨Nat.le_refl _,Qxz _,λh=>absurd h (Nat.lt_irrefl _),λi hi=>absurd hi (Qzq _),λi j _ y=>absurd y (Qzq _),Or.inl rfl⟩,d3,f3,f4,⟨T,rfl,i1,i2,i3,i4⟩,⟨X,rfl,j1,j2,j3,j4⟩,⟨Y,rfl,l2,l3,l4,l5⟩,?_,?_,?_,λi hi => ?_⟩
   .have:=a4 i j bq y;simp only[ne_eq,Qkx,Qkz,and_true];omega
   .intro e;simp only[Qkx,Qkz,and_true] at e;exact n12 e
   .intro e;simp only[Qkx,Qkz,and_true] at e;exact d7 e
   .intro e;simp only[Qkx,Qkz,and_true] at e;exact dt e
   obtain⟨x1,x2,x3⟩:=nr i hi;exact⟨λe=>by simp only[Qkx,Qkz,and_true] at e;exact x1 e,λe=>by simp only[Qkx,Qkz,and_true] at e;exact x2 e,λe=>by simp only[Qkx,Qkz,and_true] at e;exact x3 e⟩
  have dg:Hid ((D.n=s.hs.n/\∀j,j<D.n->D.z j=s.hs.z j)/\(m'.n=s.ms.n/\∀j,j<m'.n->m'.z j=s.ms.z j)):=⟨⟨d1,λj y=>d2 j (by rw[<-d1];exact y)⟩,⟨f1,λj y=>f2 j (by rw[<-f1];exact y)⟩⟩;clear hD H a1 bp be a2 a3 a4 d1 d2 d3 f1 f2 f3 f4 i1 i2 i3 i4 j1 j2 j3 j4 l2 l3 l4 l5 n1 n2 n3 n4 n5 n6 n12 d7 dt nr t;have b7:=hid P;have xl:=P.lt;have ce:=P.frozen 0;have cj:=P.k 0;have dd:=P.frozen 1;have zc1:=P.k 1;have dz:=P.frozen 2;have zc2:=P.k 2;have ec:=P.frozen 3;have zc3:=P.k 3;have dy:=P.frozen 4;have zc4:=P.k 4;have c8:=P.frozen 5;have zc5:=P.k 5;have da:=P.frozen 6;have de:=P.k 6;clear P;simp only[ap,az,Qvz,Qwq,Qvx,Act.put,Qvq,Qwx,Qwz,ds,dq];refine cf 25 rfl ?_;go_wp2_with fail;have KZ:=nl b7.out (.slice (some ⟨g0,0,none⟩) s.on.n U) (.slice .none 0 0) (.slice D.a D.n D.c) (.slice m'.a m'.n m'.c) (.slice (some ⟨T,0,none⟩) s.si.n k1) (.slice (some ⟨X,0,none⟩) s.so.n k2) (.slice (some ⟨Y,0,none⟩) s.sf.n k3);have hb:=j7 m mX (.slice (some ⟨g0,0,none⟩) s.on.n U) (.slice .none 0 0) (.slice D.a D.n D.c) (.slice m'.a m'.n m'.c) (.slice (some ⟨T,0,none⟩) s.si.n k1) (.slice (some ⟨X,0,none⟩) s.so.n k2) (.slice (some ⟨Y,0,none⟩) s.sf.n k3);have bb:=ai.set7 HR.out b7.out (.slice (some ⟨g0,0,none⟩) s.on.n U) (.slice .none 0 0) (.slice D.a D.n D.c) (.slice m'.a m'.n m'.c) (.slice (some ⟨T,0,none⟩) s.si.n k1) (.slice (some ⟨X,0,none⟩) s.so.n k2) (.slice (some ⟨Y,0,none⟩) s.sf.n k3);unfold set7 at KZ hb bb
  generalize (((((((l.setCell { block:=BX,off:=0 } (Value.slice (some { block:=g0,off:=0 }) s.on.n U)).setCell { block:=BX,off:=1 } (Value.slice none 0 0)).setCell { block:=BX,off:=2 } (Value.slice D.a D.n D.c)).setCell { block:=BX,off:=3 } (Value.slice m'.a m'.n m'.c)).setCell { block:=BX,off:=4 } (Value.slice (some { block:=T,off:=0 }) s.si.n k1)).setCell { block:=BX,off:=5 } (Value.slice (some { block:=X,off:=0 }) s.so.n k2)).setCell { block:=BX,off:=6 } (Value.slice (some { block:=Y,off:=0 }) s.sf.n k3))=WZ at *
  clear m ce cj dd zc1 dz zc2 ec zc3 dy zc4 c8 zc5 da de xl ds dq;refine⟨gy.no (Qqx hb),?_⟩;refine NoPanic.normal ?_;go_wp2_with fail;have dc:Hid (aap w.heap.size W0.heap.size s ⟨⟨some ⟨g0,0,none⟩,s.on.n,U,λi=>⟨some ⟨Gr i,0,none⟩,(s.on.r i).n,Cr i,(s.on.r i).z⟩⟩,⟨none,0,0,λ_=>⟨0,⟨none,0,0,λ_=>⟨0,0,0,0⟩⟩⟩⟩,D,m',⟨some ⟨T,0,none⟩,s.si.n,k1,s.si.z⟩,⟨some ⟨X,0,none⟩,s.so.n,k2,s.so.z⟩,⟨some ⟨Y,0,none⟩,s.sf.n,k3,s.sf.z⟩⟩ BX 0 WZ):=⟨.slice .none 0 0,λ_=>⟨0,⟨none,0,0,λ_=>⟨0,0,0,0⟩⟩⟩,KZ,World.ownsRow_nil _ _ _ _,λi hi=>absurd hi (Qzq _),λi j _ y=>absurd y (Qzq _),bb⟩;clear KZ HR bb b7;have os4:=HF.out.os4;have im:=HS.out.os.le;have en:=HS.out.os.cap;unfold maxLen at en
  go_loopw [4] (λi l=>∃k:Nat,k<=s.os.n/\i = .int .i64 k/\Hid (aap w.heap.size W0.heap.size s ⟨⟨some ⟨g0,0,none⟩,s.on.n,U,λi=>⟨some ⟨Gr i,0,none⟩,(s.on.r i).n,Cr i,(s.on.r i).z⟩⟩,⟨none,0,0,λ_=>⟨0,⟨none,0,0,λ_=>⟨0,0,0,0⟩⟩⟩⟩,D,m',⟨some ⟨T,0,none⟩,s.si.n,k1,s.si.z⟩,⟨some ⟨X,0,none⟩,s.so.n,k2,s.so.z⟩,⟨some ⟨Y,0,none⟩,s.sf.n,k3,s.sf.z⟩⟩ BX k l)/\Below W0.heap.size W0 l) (λi _=>s.os.n-(intOf i).toNat)
  case atStart=>exact⟨0,Qxz _,rfl,dc,hb⟩
  clear dc hb;obtain⟨k,hk,rfl,HL,hB⟩:=hrel;obtain⟨⟨lb,b0,b1,b2,b3,b4,b5,b6⟩,hz,bz,fv⟩:=HC.out wr hB;by_cases eb:k<s.os.n;rotate_left
  .have fb:k=s.os.n:=by omega
   subst fb;obtain⟨v,Ls,P,ho,al,bi,M⟩:=HL.out;have hv:∃va vc,v = .slice va s.os.n vc/\s.os.n<=vc/\vc<=maxLen/\(0<s.os.n->∃g,va=some ⟨g,0,none⟩/\w.heap.size<=g/\Blk wr g 57 (s.os.n*2) (λj=>(jq s.os.n Ls).getD j default)):=by
    by_cases cn:v = .slice none 0 0
    .have F:s.os.n=0:=by
      rcases ho.2 with⟨_,F⟩|⟨g2,b8,ek,h,_⟩
      .exact F
      rw[cn] at h;cases h
     exact⟨none,0,by rw[cn,F],by omega,Qxz _,λh=>by omega⟩
    obtain⟨g,c,rfl,Q,h2,h3,h4⟩:=Blk.ofOwns ho cn;exact⟨some ⟨g,0,none⟩,c,rfl,Q,h2,λ_=>⟨g,rfl,by omega,h4⟩⟩
   obtain⟨va,vc,rfl,v1,v2,v3⟩:=hv;have v4:fu w.heap.size wr 57 2 va vc:=fu.ofOwns ho (by omega);have HR:Hid (ai w.heap.size wr ⟨⟨some ⟨g0,0,none⟩,s.on.n,U,λi=>⟨some ⟨Gr i,0,none⟩,(s.on.r i).n,Cr i,(s.on.r i).z⟩⟩,⟨va,s.os.n,vc,Ls⟩,D,m',⟨some ⟨T,0,none⟩,s.si.n,k1,s.si.z⟩,⟨some ⟨X,0,none⟩,s.so.n,k2,s.so.z⟩,⟨some ⟨Y,0,none⟩,s.sf.n,k3,s.sf.z⟩⟩):=
    ⟨M.on,M.rows,M.rapart,⟨v1,v2,v3,λi hi=>(al i hi).2.2.2,bi,v4⟩,M.hs,M.ms,M.msr,M.si,M.so,M.sf,M.aio,M.aif,M.aof,M.ari⟩
   have fg:Hid (af ⟨⟨some ⟨g0,0,none⟩,s.on.n,U,λi=>⟨some ⟨Gr i,0,none⟩,(s.on.r i).n,Cr i,(s.on.r i).z⟩⟩,⟨va,s.os.n,vc,Ls⟩,D,m',⟨some ⟨T,0,none⟩,s.si.n,k1,s.si.z⟩,⟨some ⟨X,0,none⟩,s.so.n,k2,s.so.z⟩,⟨some ⟨Y,0,none⟩,s.sf.n,k3,s.sf.z⟩⟩ s):=
    ⟨⟨rfl,λi hi=>⟨rfl,λj y=>rfl⟩⟩,⟨rfl,λi hi=>⟨(al i hi).1,(al i hi).2.1,λj y=>(al i hi).2.2.1 j (by rw[<-(al i hi).2.1];exact y)⟩⟩,dg.out.1,dg.out.2,⟨rfl,λj y=>rfl⟩,⟨rfl,λj y=>rfl⟩,⟨rfl,λj y=>rfl⟩⟩
   have xl:=P.lt;obtain⟨x0,x1,x2,x3,x4,x5,x6⟩:=df P;have dj:=hid hz;obtain⟨zl,ce,cj,dd,zc1,dz,zc2,ec,zc3,dy,zc4,c8,zc5,da,de⟩:=z7 hz;clear hz P ho al bi M v1 v2 v3 v4 HL bz b0 b2 b3 b4 b5 b6;go_wp2_with fail;have KZ:=nl dj.out (.slice (some ⟨g0,0,none⟩) s.on.n U) (.slice va s.os.n vc) (.slice D.a D.n D.c) (.slice m'.a m'.n m'.c) (.slice (some ⟨T,0,none⟩) s.si.n k1) (.slice (some ⟨X,0,none⟩) s.so.n k2) (.slice (some ⟨Y,0,none⟩) s.sf.n k3);have d8:=j7 (b:=w.heap.size+1) fv (by omega) (.slice (some ⟨g0,0,none⟩) s.on.n U) (.slice va s.os.n vc) (.slice D.a D.n D.c) (.slice m'.a m'.n m'.c) (.slice (some ⟨T,0,none⟩) s.si.n k1) (.slice (some ⟨X,0,none⟩) s.so.n k2) (.slice (some ⟨Y,0,none⟩) s.sf.n k3);have bb:=ai.set7 HR.out dj.out (.slice (some ⟨g0,0,none⟩) s.on.n U) (.slice va s.os.n vc) (.slice D.a D.n D.c) (.slice m'.a m'.n m'.c) (.slice (some ⟨T,0,none⟩) s.si.n k1) (.slice (some ⟨X,0,none⟩) s.so.n k2) (.slice (some ⟨Y,0,none⟩) s.sf.n k3);unfold set7 at KZ d8 bb
   generalize (((((((wr.setCell { block:=w.heap.size+1,off:=0 } (Value.slice (some { block:=g0,off:=0 }) s.on.n U)).setCell { block:=w.heap.size+1,off:=1 } (Value.slice va s.os.n vc)).setCell { block:=w.heap.size+1,off:=2 } (Value.slice D.a D.n D.c)).setCell { block:=w.heap.size+1,off:=3 } (Value.slice m'.a m'.n m'.c)).setCell { block:=w.heap.size+1,off:=4 } (Value.slice (some { block:=T,off:=0 }) s.si.n k1)).setCell { block:=w.heap.size+1,off:=5 } (Value.slice (some { block:=X,off:=0 }) s.so.n k2)).setCell { block:=w.heap.size+1,off:=6 } (Value.slice (some { block:=Y,off:=0 }) s.sf.n k3))=WY at *
   obtain⟨gr,gb,fd,fl,es,gm,gs⟩:=df KZ;have HQ:=hid bb;refine Xzq (v:=(⟨⟨some ⟨g0,0,none⟩,s.on.n,U,λi=>⟨some ⟨Gr i,0,none⟩,(s.on.r i).n,Cr i,(s.on.r i).z⟩⟩,⟨va,s.os.n,vc,Ls⟩,D,m',⟨some ⟨T,0,none⟩,s.si.n,k1,s.si.z⟩,⟨some ⟨X,0,none⟩,s.so.n,k2,s.so.z⟩,⟨some ⟨Y,0,none⟩,s.sf.n,k3,s.sf.z⟩⟩:St).val) (by simp[results,results20,go_sem,St.val,gr,gb,fd,fl,es,gm,gs]) rfl ?_;exact⟨_,rfl,fg.out,HQ.out,d8⟩
  obtain⟨v,Ls,P,ho,al,bi,M⟩:=HL.out;obtain⟨bo,oo,dp,ia,y0,y1,di⟩:=bz.os.ods k eb;have l3:=HF.out.lns k eb;have HG:=qa4 ho al bi M;have HX:=hid P;have d6:=hid di;have qk:(0:Int)<=(k:Int):=by omega
  rw[dp] at b1;have r0:=Qqq (P.k 1);have r1:=Qqq b1;have r2:=Qqq y0;have r3:=Qqq y1;clear P ho al bi M hz dp y0 y1 di b0 b2 b3 b4 b5 b6 bz HL;go_wp2_with fail;refine uj (λw'=>∃p:Regrown,w'=grow (redrawn wr p.d) p.os) [0,1,2,3,4,5,6,7,9,10,11,12,13,14] [8,15,16,17] [(true,18),(true,19),(true,20)] (Qqx (brf.drew)) ?_;simp only[du,Qyq,Xqq,Qyx,Qyz,Xqz,Xqx]
  repeat(go_big_quiet_step(fail))
  refine Qqz ?_;clear r0 r1 r2 r3;refine⟨λj v g l=>match j with|15=>DHs wr.heap.size 59 (s.os.z k).ls v g l|16=>D16 wr.heap.size (s.os.z k) v g l|17=>D17 wr.heap.size (s.os.z k) v g l|_=>DE v g,
   Qjx ⟨λv g w w' _ h=>h,Qjx ⟨λv g w w' hB h=>DHs.below h hB,Qjx ⟨λv g w w' hB h=>D16.below h hB,Qjx ⟨λv g w w' hB h=>D17.below h hB,Qjq _⟩⟩⟩⟩,
   Qjx ⟨λv g w h=>by obtain⟨_,Q,_⟩:=h;rw[Q];intro x hx;simp at hx,Qjx ⟨λv g w h=>by obtain⟨_,Q,_⟩:=h;rw[Q];intro x hx;simp at hx,Qjx ⟨λv g w h=>by obtain⟨_,Q,_⟩:=h;rw[Q];intro x hx;simp at hx,Qjx ⟨λv g w h=>by obtain⟨_,_,Q,_⟩:=h;rw[Q];intro x hx;simp at hx,Qjq _⟩⟩⟩⟩,
   Qjx ⟨?zt8,Qjx ⟨?zt15,Qjx ⟨?zt16,Qjx ⟨?zt17,Qjq _⟩⟩⟩⟩,?ztdone⟩
  case zt8 =>
   intro V G l K t hd H o;have m:=ae t;refine aq 8 rfl ?_;simp only[ap,az,Qvz,Qwq,Qvx,Act.put,Qvq,Qwx,Qwz] at o ⊢;go_wp2_with fail;exact o _ [] _ (Qqx (m.alloc m.size _)) (brf.alloc nlr _) (λx hx=>by simp at hx) ⟨l.heap.size,rfl,rfl⟩
  case zt15 =>
   intro V G l K t hd H o;have m:=ae t;have q:=m.size;obtain⟨B,-,h3⟩:DE (V 8) (G 8):=hd 8 (Qjz (by kernel_rfl)) (by simp);refine aq 15 rfl ?_;simp only[ap,az,Qvz,Qwq,Qvx,Act.put,Qvq,Qwx,Qwz,h3] at o ⊢;go_wp2_with(at_builtin;refine po l rfl (.tmp 44) (.tmp 50) 45 rfl 59 iL (.agg #[.int .i64 0,.int .i64 0,.int .i64 0,.int .i64 0]) 4 32 underlying45 hL fe fp ex rfl (by decide) B rfl (s.os.z k).ls.a (s.os.z k).ls.n (s.os.z k).ls.c (ay (s.os.z k).ls.n (s.os.z k).ls.z) rfl (by rw[eu]) (Kh (d6.out.below m)) (mw _ _) (O8 (d6.out.below m)) (by unfold maxLen;omega) (by omega) ?_ ?_)
   .intro F;exact absurd F (by omega)
   intro F v' w1 S E;have L:Below l.heap.size l w1:=(Below.refl _ l).grown E nlr (by intro k hk;cases hk);obtain⟨J,rfl,hc⟩:=Cj (A:=wr.heap.size) F S (by omega);exact l8 (o _ [] _ (Qqx (m.trans (L.mono m.size))) L (λx hx=>by simp at hx) ⟨J,rfl,rfl,hc⟩)
  case zt16 =>
   intro V G l K t hd H o;obtain⟨J,-,f5,hc⟩:DHs wr.heap.size 59 (s.os.z k).ls (V 15) (G 15) l:=hd 15 (Qjz (by kernel_rfl)) (by simp);have bc:Hid (qm wr.heap.size 59 (s.os.z k).ls l J):=hc;clear hc;refine aq 16 rfl ?_;simp only[ap,az,Qvz,Qwq,Qvx,Act.put,Qvq,Qwx,Qwz,f5] at o ⊢;go_wp2_with fail;exact o _ [] _ t brf (λx hx=>by simp at hx) ⟨J,rfl,rfl,bc.out⟩
  case zt17 =>
   intro V G l K t hd H o;have m:=ae t;obtain⟨J,-,gt,hc⟩:D16 wr.heap.size (s.os.z k) (V 16) (G 16) l:=hd 16 (Qjz (by kernel_rfl)) (by simp);have bc:Hid (qm wr.heap.size 59 (s.os.z k).ls l J):=hc;clear hc;refine aq 17 rfl ?_;simp only[ap,az,Qvz,Qwq,Qvx,Act.put,Qvq,Qwx,Qwz,gt] at o ⊢;go_wp2_with fail;have d5:=(Below.refl l.heap.size l).alloc nlr (.cells #[.int .i64 (s.os.z k).k,.slice J.a J.n J.c] 57);exact o _ [] _ (Qqx (m.alloc m.size _)) (brf.alloc nlr _) (λx hx=>by simp at hx) ⟨l.heap.size,J,rfl,rfl,m.size,Blk.mk' rfl rfl,bc.out.1,bc.out.2.1,bc.out.2.2.1.below d5,bc.out.2.2.2.below d5⟩
  case ztdone =>
   intro V G' l t hD H;obtain⟨BO,J,-,gw,ic,ca,e1,e2,⟨o1,o2,o3,o4⟩,-⟩:D17 wr.heap.size (s.os.z k) (V 17) (G' 17) l:=hD 17 (by simp);have m:=ae t;have ho:=j6 HG.out.1 m;have dk:=hB.trans (m.mono hB.size);have q0:=hB.size;have q1:=m.size;obtain⟨gB,ea,ie,kB⟩:=o4 (by omega);clear t hD H;have HE:=qa5 e1 e2 ea o1 o2;have c9:=hid kB;clear e1 e2 ea o1 o2 o3 o4 kB;simp only[ap,az,Qvz,Qwq,Qvx,Act.put,Qvq,Qwx,Qwz,gw];refine cf 18 rfl ?_;go_wp2_with(at_builtin;refine wpList_append_own _ rfl (.tmp 37) (.tmp 53) 27 rfl W0.heap.size 57 iO (.agg #[.int .i64 0,.slice none 0 0]) 2 32 underlying27 hO fa e8 f7 rfl (by decide) _ _ _ rfl ho ⟨BO,0,none⟩ 1 1 [.int .i64 (s.os.z k).k,.slice J.a J.n J.c] rfl rfl ?zc1 ?zc2 ?zc3 ?zc4 ?zc5 ?_)
   case zc1 =>
    intro j u y
    match j,y with
    | 0,y=>simp at y;subst y;exact ca.k 0
    | 1,y=>simp at y;subst y;exact ca.k 1
   case zc2=>intro u hu;simp at hu;rcases hu with rfl|rfl<;>rfl
   case zc3=>unfold maxLen;omega
   case zc4=>omega
   case zc5=>omega
   intro v2 w2 bd aa cw;have cd:=ho.lt;have eo:Below W0.heap.size W0 w2:=dk.grown aa (by omega) (λq hq=>(cd q hq).1);have ao:=ow ho aa (HX.out.below m) (by decide);have co:=ow ho aa c9.out (by decide);have cb:∀i,i<k->My w.heap.size s Ls i w2:=λi hi=>by
    obtain⟨x1,x2,x3,B,x4,x5,x6,x7,x8⟩:=HG.out.2.1 i hi;exact⟨x1,x2,x3,B,x4,x5,x6,x7,ow ho aa (x8.below m) (by decide)⟩
   have cl:∀i,i<k->(Ls i).ls.a≠some ⟨gB,0,none⟩:=λi hi e=>by
    obtain⟨x1,x2,x3,B,x4,x5,x6,x7,x8⟩:=HG.out.2.1 i hi;rw[x4] at e;simp only[Qkx,Qkz,and_true] at e;have:=x8.lt;omega
   have bx:=ai.grownO (HG.out.2.2.2.below m) rfl rfl ho aa;have ey:∃g c,v2 = .slice (some ⟨g,0,none⟩) (k+1) c:=by
    rcases bd.2 with⟨_,F⟩|⟨g2,b8,ek,rfl,_⟩
    .omega
    exact⟨g2,b8,rfl⟩
   have xl:=ao.lt;have ce:=ao.frozen 1;have cj:=ao.k 1;have gk:=eo.setCell (p:=⟨BX,1,none⟩) mX v2;have KB:=ao.set 1 v2;have HN:Hid (aap w.heap.size W0.heap.size s ⟨⟨some ⟨g0,0,none⟩,s.on.n,U,λi=>⟨some ⟨Gr i,0,none⟩,(s.on.r i).n,Cr i,(s.on.r i).z⟩⟩,⟨none,0,0,λ_=>⟨0,⟨none,0,0,λ_=>⟨0,0,0,0⟩⟩⟩⟩,D,m',⟨some ⟨T,0,none⟩,s.si.n,k1,s.si.z⟩,⟨some ⟨X,0,none⟩,s.so.n,k2,s.so.z⟩,⟨some ⟨Y,0,none⟩,s.sf.n,k3,s.sf.z⟩⟩ BX (k+1) (w2.setCell ⟨BX,1,none⟩ v2)):=by
    refine⟨v2,λi=>if i=k then ⟨(s.os.z k).k,J⟩ else Ls i,KB.congr (λj y=>by match j,y with|0,_=>rfl|1,_=>rfl|2,_=>rfl|3,_=>rfl|4,_=>rfl|5,_=>rfl|6,_=>rfl),?_,λi hi => ?_,λi j bq y => ?_,bx.box ao 1 v2⟩
    .have e:jq (k+1) (λi=>if i=k then ⟨(s.os.z k).k,J⟩ else Ls i)=jq k Ls++[.int .i64 (s.os.z k).k,.slice J.a J.n J.c]:=by
      rw[jq,zw (z':=Ls) λi hi=>by rw[if_neg (by omega)],if_pos rfl]
      rfl
     rw[e];exact vp bd ao (by decide) _ _
    .by_cases dw:i=k
     .subst dw;unfold My;dsimp only;rw[if_pos rfl];exact⟨rfl,HE.out.1,HE.out.2.1,gB,HE.out.2.2.1,by omega,HE.out.2.2.2.1,HE.out.2.2.2.2,co.other (a:=⟨BX,1,none⟩) (Blk.ne co ao (by decide)) _⟩
     unfold My;dsimp only;rw[if_neg dw];obtain⟨x1,x2,x3,B,x4,x5,x6,x7,x8⟩:=cb i (by omega);exact⟨x1,x2,x3,B,x4,x5,x6,x7,x8.other (a:=⟨BX,1,none⟩) (Blk.ne x8 ao (by decide)) _⟩
    dsimp only;by_cases dn:j=k
    .subst dn;rw[if_neg (by omega),if_pos rfl,HE.out.2.2.1];exact cl i bq
    rw[if_neg (by omega),if_neg dn];exact HG.out.2.2.1 i j bq (by omega)
   clear co cb cl bx KB bd ao ho aa cw cd ca m HG HX dk c9 HE;obtain⟨g2,c2,rfl⟩:=ey;refine l8 ⟨gy.yes,?_⟩;refine cf 19 rfl ?_;go_wp2_with fail;refine⟨gy.yes,?_⟩;refine cf 20 rfl ?_;go_wp2_with fail;refine⟨gy.yes,?_⟩;refine NoPanic.normal ?_;go_wp2_with fail;go_roundw
   case rel=>exact⟨k+1,by omega,by go_num,HN,gk⟩
   case measure=>simp[intOf];omega
def qn(A:Nat)(e:TypeId)(w w':World):Prop:=∃row,w.grownBy w' row/\∀k,row=some k->A<=k/\∃cur,w.heap[k]?=some (.cells cur e (0,0))
theorem qn.blk{c:World}(h:qn A e w c){t:TypeId}{m:Nat}(g:Blk w q t m f)(d:t≠e):Blk c q t m f:=by
 obtain⟨row,j,k⟩:=h;refine g.grown j λi => ?_;obtain⟨_,c2,a⟩:=k q i.symm;obtain⟨c3,b,_⟩:=g;rw[b] at a;cases a;exact d rfl
theorem qn.low(h:qn A e w a){t:TypeId}{m:Nat}(c:Blk w q t m f)(i:q<A):Blk a q t m f:=by
 obtain⟨row,d,g⟩:=h;exact c.grown d λb=>by have:=(g q b.symm).1;omega
theorem qn.below{a:Nat}{w0 b:World}(h:qn A e w b)(f:Below a w0 w)(i:a<=A)(hs:a<=w.heap.size):Below a w0 b:=by
 obtain⟨row,c,g⟩:=h;exact f.grown c hs λk d=>by have:=(g k d).1;omega
theorem fu.grew{B:Nat}{t:TypeId}{j:World}{a:Option Addr}(h:fu A w t i a c)(f:qn B e w j)(k:t≠e):fu A j t i a c:=by
 obtain⟨row,f,m⟩:=f;refine h.same λg cur d=>f.block g (Qkq d).1 λl => ?_;obtain⟨_,c2,b⟩:=m g l.symm;rw[d] at b;cases b;exact k rfl
theorem j9.grew{B:Nat}{b:World}{r:Rw}(h:j9 A w r)(f:qn B e w b)(a:3≠e):j9 A b r:=by
 obtain⟨g,j,d,i,k,c⟩:=h;exact⟨g,j,d,i,k,f.blk c a⟩
theorem cw.grew{B:Nat}{t:TypeId}{s:Hs}(h:cw A t w s)(j:qn B e w a)(b:t≠e):cw A t a s:=by
 obtain⟨f,m,k,l⟩:=h;refine⟨f,m,k,λn => ?_⟩;obtain⟨g,c,d,i⟩:=l n;exact⟨g,c,d,j.blk i b⟩
theorem Qo{a:Nat}{size:Nat}(h:w.ownsRow A e size v n xs)(b:a<=A):w.ownsRow a e size v n xs :=
 ⟨h.1,h.2.imp_right λ⟨g,cap,cur,h1,h2,h3⟩=>⟨g,cap,cur,h1,Qzx b h2,h3⟩⟩
theorem Pc{size:Nat}{cur:Array Value}(p:A<=g)(f:w.heap[g]?=some (.cells cur e (0,0)))(k:cur.size=c*size)(i:n<=c)(b:c<=maxLen)(o:xs.length=n*size)
  (s:0<n->Blk w g e (n*size) (λj=>xs.getD j default)):w.ownsRow A e size (.slice (some ⟨g,0,none⟩) n c) n xs:=by
 refine⟨o,Or.inr ⟨g,c,cur,rfl,p,f,i,b,k,?_⟩⟩
 apply List.ext_getElem?
 intro j;rw[List.getElem?_take];by_cases a:j<n*size
 .rw[if_pos a];have m:0<n:=by
   rcases Nat.eq_zero_or_pos n with h|h
   .subst h;simp at a
   exact h
  obtain⟨q,hc,_,r⟩:=s m;rw[f] at hc;cases hc;have d:=r j a;have l:j<xs.length:=by omega
  rw[List.getElem?_eq_getElem l];simp only[List.getD,List.getElem?_eq_getElem l,Option.getD_some] at d
  simpa using d
 rw[if_neg a,List.getElem?_eq_none (by omega)]
theorem ui(w:World){D:Array Oper}{rest:List Oper}{o:Oper}{a:Act}
  (hg:o.guard=none) (s x:Operand) (t:TypeId) (y:o.op=Op.call { callee:=Callee.builtin Builtin.append,args:=#[s,x],argTypes:=#[t,t] })
  (A:Nat) (e:TypeId) (i:TypeInfo) (z:Value) (size bytes:Nat) (h1:P.underlying t=some (.slice e)) (Y:P.info? e=some i) (h3:i.zero=some z) (W:i.size=size) (T:i.bytes=bytes) (V:z.cells.size=size) (S:0<size)
  (l:Option Addr) (n c:Nat) (xs:List Value) (hs:a.eval s = .slice l n c) (p:fu A w e size l c) (U:n<=c) (M:c<=maxLen) (B:xs.length=n*size) (H:0<n->∃g,l=some ⟨g,0,none⟩/\A<=g/\Blk w g e (n*size) (λj=>xs.getD j default))
  (r:Addr) (m J:Nat) (news:List Value) (hx:a.eval x = .slice (some r) m J) (hn:news.length=m*size) (hc:∀j u,news[j]?=some u->w.cell? (r.add j)=some u) (v:∀u∈news,u.oneCell'=true)
  (hm:0<m) (b1:n+m<=maxLen) (b2:(n+m)*bytes<=140737488355328) (hA:A<=w.heap.size)
  (hK:∀f d,d.ownsRow A e size f (n+m) (xs++news)->qn A e w d->wpList P D Q rest (a.put o.dst f) d) :
  wpList P D Q (o :: rest) a w:=by
 rcases p with h0|⟨g,cur,ha,E,F,ai⟩
 .subst h0;have ah:n=0:=by omega
  subst ah;obtain rfl:xs=[]:=List.eq_nil_of_length_eq_zero (by simpa using B);refine wpList_append_grows w hg s x t y e i z size bytes h1 Y h3 W T V S l 0 0 [] hs (λ_=>⟨rfl,rfl⟩) (by simp) (λb _ j u hj=>by simp at hj) r m J news hx hn hc v (by omega) b1 b2 λf d G K => ?_;exact hK f d (Qo G hA) ⟨none,K,λk q=>by cases q⟩
 subst ha;have L:=Pc (w:=w) (e:=e) E F ai U M B (λh=>by
  obtain⟨g',X,_,hb⟩:=H h;simp only[Qkx,Qkz,and_true] at X;subst X;exact hb)
 refine wpList_append_own w hg s x t y A e i z size bytes h1 Y h3 W T V S _ n xs hs L r m J news hx hn hc v b1 b2 hA λf d G K _ => ?_;refine hK f d G ⟨_,K,λk q => ?_⟩;simp only[Value.ownBlock,Qkx] at q;subst q;exact⟨E,cur,F⟩
def mr(s:Os)(x:Od)(i:Nat):Od:=if i=s.n then x else s.z i
theorem Wh(s:Os)(x:Od):jq s.n s.z++qy x=jq (s.n+1) (mr s x):=by
 rw[jq,zw (z':=mr s x) λi hi=>by unfold mr;rw[if_neg (by omega)]]
 congr 1
 unfold mr;rw[if_pos rfl]
theorem kq.more{b:World}{s:Os}{x:Od}(h:kq A w s)(k:b.ownsRow A 57 2 v (s.n+1) (jq s.n s.z++qy x))(m:qn A 57 w b)
  {B:Nat} (q:x.ls.a=some ⟨B,0,none⟩) (F:A<=B) (D:x.ls.n<=x.ls.c) (hc:x.ls.c<=maxLen) (K:Blk w B 59 (x.ls.n*4) (λj=>(ay x.ls.n x.ls.z).getD j default)) (o:∀i,i<s.n->(s.z i).ls.a≠x.ls.a) :
  ∃va vc,v = .slice va (s.n+1) vc/\kq A b ⟨va,s.n+1,vc,mr s x⟩:=by
 have G:v ≠ .slice none 0 0:=by
  rintro rfl;rcases k.2 with⟨_,U⟩|⟨T,J,p,h,_⟩
  .omega
  cases h
 have e:=k;rw[Wh] at e;obtain⟨g,c,rfl,r,M,u,L⟩:=Blk.ofOwns e G;refine⟨some ⟨g,0,none⟩,c,rfl,r,M,λ_=>⟨g,rfl,u,L⟩,λi hi => ?_,λi j l E => ?_,fu.ofOwns k nlr⟩
 .show ∃B,(mr s x i).ls.a=_/\A<=B/\(mr s x i).ls.n<=(mr s x i).ls.c/\(mr s x i).ls.c<=maxLen/\Blk b B 59 ((mr s x i).ls.n*4) (λj=>(ay (mr s x i).ls.n (mr s x i).ls.z).getD j default);have Q:i<s.n+1:=hi;unfold mr;by_cases f:i=s.n
  .rw[if_pos f];exact⟨B,q,F,D,hc,m.blk K (by decide)⟩
  rw[if_neg f];obtain⟨B',a1,y,P,t,H⟩:=h.lines i (by omega);exact⟨B',a1,y,P,t,m.blk H (by decide)⟩
 have S:j<s.n+1:=E;show(mr s x i).ls.a≠(mr s x j).ls.a;unfold mr;rw[if_neg (by omega)];by_cases d:j=s.n
 .rw[if_pos d];exact o i (by omega)
 rw[if_neg d];exact h.apart i j l (by omega)
structure Bt(R:Nat)(w w':World):Prop where
 os:w'.os=w.os
 tape:w'.tape=w.tape
 output:w'.output=w.output
 size:w.heap.size<=w'.heap.size
 block:∀q,q<w.heap.size->q≠R->w'.heap[q]?=w.heap[q]?
theorem Bt.refl(R:Nat)(w:World):Bt R w w:=⟨rfl,rfl,rfl,Nat.le_refl _,λ_ _ _=>rfl⟩
theorem Bt.trans{b c:World}(h:Bt R a b)(k:Bt R b c):Bt R a c :=
 ⟨k.os.trans h.os,k.tape.trans h.tape,k.output.trans h.output,Qzx h.size k.size,λq d e=>(k.block q (Xzx d h.size) e).trans (h.block q d e)⟩
theorem Bt.drew(h:Bt R a w):Bt R a w.drew:=⟨h.os,h.tape,h.output,h.size,h.block⟩
theorem Bt.of{B:Nat}(h:Below B w a)(b:w.heap.size<=B):Bt R w a:=⟨h.os,h.tape,h.output,h.size,λq c _=>h.block q (by omega)⟩
theorem Bt.alloc(h:Bt R a w)(o:Obj):Bt R a (w.alloc o):=h.trans (Bt.of (brf.alloc nlr o) nlr)
theorem Bt.set(h:Bt R a w){p:Addr}(b:p.block=R\/a.heap.size<=p.block)(u:Value):Bt R a (w.setCell p u):=
 ⟨h.os,h.tape,h.output,by simpa[World.setCell] using h.size,λq c d=>(Below.heap_setCell w p u q (by rcases b with b|b<;>omega)).trans (h.block q c d)⟩
theorem Bt.thenB{b c:World}(h:Bt R a b)(k:Below a.heap.size b c):Bt R a c :=
 ⟨k.os.trans h.os,k.tape.trans h.tape,k.output.trans h.output,Qzx h.size k.size,λq d e=>(k.block q d).trans (h.block q d e)⟩
theorem Bt.blk{b:World}(h:Bt R w b)(a:Blk w q e n f)(c:q≠R):Blk b q e n f:=a.same (h.block q a.lt c)
theorem Bt.below{B:Nat}(h:Bt R w a)(c:B<=R)(hs:B<=w.heap.size):Below B w a:=⟨h.os,h.tape,h.output,h.size,λk b=>h.block k (by omega) (by omega)⟩
theorem Bt.grew{c:World}(h:Bt R a w)(b:qn A e w c)(i:a.heap.size<=A):Bt R a c:=by
 obtain⟨row,b,f⟩:=b;exact⟨b.os.trans h.os,b.tape.trans h.tape,b.output.trans h.output,Qzx h.size b.size,λq d g=>(b.block q (Xzx d h.size) (λe=>by have:=(f q e.symm).1;omega)).trans (h.block q d g)⟩
structure Eqv(w w':World):Prop where
 os:w'.os=w.os
 tape:w'.tape=w.tape
 output:w'.output=w.output
 heap:w'.heap=w.heap
theorem Eqv.refl(w:World):Eqv w w:=⟨rfl,rfl,rfl,rfl⟩
theorem Eqv.trans{b c:World}(h:Eqv a b)(k:Eqv b c):Eqv a c:=⟨k.os.trans h.os,k.tape.trans h.tape,k.output.trans h.output,k.heap.trans h.heap⟩
theorem Eqv.drew(w:World):Eqv w w.drew:=⟨rfl,rfl,rfl,rfl⟩
theorem Eqv.drewN(w:World)(n:Nat):Eqv w (w.drewN n):=⟨rfl,rfl,rfl,rfl⟩
theorem Eqv.set(h:Eqv w a)(p:Addr)(u:Value):Eqv (w.setCell p u) (a.setCell p u):=by
 refine⟨h.os,h.tape,h.output,?_⟩;unfold World.setCell;rw[h.heap]
theorem Eqv.below(h:Eqv w a)(B:Nat):Below B w a:=⟨h.os,h.tape,h.output,by rw[h.heap];exact Nat.le_refl _,λk _=>by rw[h.heap]⟩
theorem Eqv.bt(h:Eqv w a)(R:Nat):Bt R w a:=⟨h.os,h.tape,h.output,by rw[h.heap];exact Nat.le_refl _,λk _ _=>by rw[h.heap]⟩
theorem Eqv.blk(h:Eqv w a)(b:Blk w q e n f):Blk a q e n f:=b.same (by rw[h.heap])
def getW(R:Nat)(t:List UInt8):List Addr->Nat->World->World
 | [],_,w=>w
 | p :: ps,k,w=>getW R t ps (k+1) ((w.setCell p (.int .i64 (rdN t k))).setCell ⟨R,1,none⟩ (.int .i64 ((k+1:Nat):Int)))
theorem Qb(R:Nat)(t:List UInt8):∀(a:List Addr) (p:Addr) (k:Nat) (w:World),getW R t (a++[p]) k w=((getW R t a k w).setCell p (.int .i64 (rdN t (k+a.length)))).setCell ⟨R,1,none⟩ (.int .i64 ((k+a.length+1:Nat):Int))
 | [],p,k,w=>rfl
 | q :: a,p,k,w=>by
  show getW R t (a++[p]) (k+1) _=_;rw[Qb R t a p (k+1)];simp only[List.length_cons,getW];rw[show k+1+a.length=k+(a.length+1) by omega]
theorem Gj(R:Nat)(t:List UInt8){a:World}:∀(b:List Addr) (k:Nat) (w:World),Bt R a w->(∀p∈b,p.block=R\/a.heap.size<=p.block)->Bt R a (getW R t b k w)
 | [],_,_,h,_=>h
 | p :: b,k,w,h,hp=>Gj R t b (k+1) _ ((h.set (hp p (List.mem_cons_self ..)) _).set (Or.inl rfl) _) λq c=>hp q (List.mem_cons_of_mem _ c)
def Shp(w:World)(q:Nat)(e:TypeId)(n:Nat):Prop:=∃f,Blk w q e n f
theorem Shp.set(h:Shp w q e n)(b j:Nat)(u:Value):Shp (w.setCell ⟨b,j,none⟩ u) q e n:=by
 obtain⟨f,h⟩:=h;by_cases c:q=b
 .subst c;exact⟨_,h.set j u⟩
 exact⟨_,h.other c u⟩
theorem Shp.getW{R:Nat}{t:List UInt8}{q:Nat}{e:TypeId}{n:Nat}:∀(a:List Addr) (k:Nat) (w:World),(∀p∈a,p.spot=none)->Shp w q e n->Shp (getW R t a k w) q e n
 | [],_,_,_,h=>h
 | ⟨b,j,s⟩ :: a,k,w,hp,h=>by
  have d:s=none:=hp _ (List.mem_cons_self ..);subst d;exact Shp.getW a (k+1) _ (λp c=>hp p (List.mem_cons_of_mem _ c)) ((h.set b j _).set R 1 _)
theorem L7(R:Nat)(t:List UInt8){q:Nat}{e:TypeId}{n:Nat}{f:Nat->Value}:∀(a:List Addr) (k:Nat) (w:World),(∀p∈a,q≠p.block)->q≠R->Blk w q e n f->Blk (getW R t a k w) q e n f
 | [],_,_,_,_,h=>h
 | p :: a,k,w,hp,hR,h=>L7 R t a (k+1) _ (λb c=>hp b (List.mem_cons_of_mem _ c)) hR ((h.other (hp p (List.mem_cons_self ..)) _).other hR _)
def n9(R:Nat)(w:World)(t:List UInt8)(k:Nat):Prop:=Blk w R 85 2 (λj=>(#[.string ⟨t.toArray⟩,.int .i64 (k:Int)]:Array Value).getD j default)
structure rq(w:World)(p:Addr):Prop where
 cell:∃z,w.cell? p=some (.int .i64 z)
 frozen:w.frozen? p=false
 lt:p.block<w.heap.size
theorem rq.set{p:Addr}(h:rq w p)(q:Addr)(v:Int):rq (w.setCell q (.int .i64 v)) p:=by
 refine⟨?_,(World.frozen?_setCell ..).trans h.frozen,by simpa[World.setCell] using h.lt⟩;by_cases e:p=q
 .subst e;obtain⟨z,a⟩:=h.cell;exact⟨v,World.cell?_setCell_same _ _ _ a⟩
 obtain⟨z,a⟩:=h.cell;exact⟨z,(World.cell?_setCell_other _ _ _ _ (λb=>e b.symm)).trans a⟩
theorem rq.getW{R:Nat}{t:List UInt8}{p:Addr}:∀(a:List Addr) (k:Nat) (w:World),rq w p->rq (getW R t a k w) p
 | [],_,_,h=>h
 | q :: a,k,w,h=>rq.getW a (k+1) _ ((h.set q _).set _ _)
theorem rq.eqv{p:Addr}(h:rq w p)(e:Eqv w a):rq a p:=by
 obtain⟨⟨z,d⟩,f,c⟩:=h;have b:a.heap[p.block]?=w.heap[p.block]?:=by rw[e.heap]
 exact⟨⟨z,(World.cell?_of_block b).trans d⟩,(World.frozen?_of_block b).trans f,by rw[e.heap];exact c⟩
theorem n9.set{k:Nat}(h:n9 R w t k)(m:Nat):n9 R (w.setCell ⟨R,1,none⟩ (.int .i64 (m:Int))) t m :=
 (Blk.set h 1 _).congr (λj a=>by match j,a with|0,_=>rfl|1,_=>rfl)
theorem n9.getW{R:Nat}{t:List UInt8}:∀(a:List Addr) (k:Nat) (w:World),(∀p∈a,R≠p.block)->n9 R w t k->n9 R (getW R t a k w) t (k+a.length)
 | [],_,_,_,h=>h
 | q :: a,k,w,hp,h=>by
  have c:n9 R (w.setCell q (.int .i64 (rdN t k))) t k:=Blk.other h (hp q (List.mem_cons_self ..)) _;have:=n9.getW a (k+1) _ (λp b=>hp p (List.mem_cons_of_mem _ b)) (c.set (k+1));rw[List.length_cons,show k+(a.length+1)=k+1+a.length by omega];exact this
theorem tj(t:List UInt8){k:Nat}(a:k<t.length)(w:World):(Instr.index 9 (.string ⟨t.toArray⟩) (.int .i64 (k:Int))).run prog w = .ok (.int .u8 (rdN t k)) w:=by
 have hs:(⟨t.toArray⟩:ByteArray).size=t.length:=by simp[ByteArray.size]
 rw[run_index_string w 9 _ .i64 (k:Int) underlying9,dif_pos ⟨by omega,by rw[hs];omega⟩]
 congr 2
 unfold rdN;simp only[List.getD,List.getElem?_eq_getElem a,Option.getD_some];simp[ByteArray.getElem_eq_getElem_data]
theorem U3(R g:Nat)(t:List UInt8)(k:Nat)(a:List Addr)(w:World)(X:n9 R w t k)(H:k<=t.length)(V:t.length<=4096)(z:g≠R)(hl:a.length<=100)
  (Q:Blk w g 119 a.length (λj => .pointer (some (a.getD j default)))) (d:∀p∈a,rq w p/\R≠p.block/\g≠p.block) :
  Calls prog 87 #[.pointer (some ⟨R,0,none⟩),.slice (some ⟨g,0,none⟩) a.length a.length] w λe S =>
   (e = .returned (.tuple #[])/\k+a.length<=t.length/\Eqv (getW R t a k w) S)\/(e = .panicked [{ v := .iface 32 (.int .i64 1),recovered:=false }]/\t.length<k+a.length/\∃i,Eqv (getW R t (a.take i) k w) S):=by
 have HR:=hid X;have HG:Hid (Blk w g 119 a.length (λj => .pointer (some (a.getD j default)))):=Q;have x:=hid d;have B:=qa4 H V hl z;clear X Q d H V z;go_enter func87,ntmps87;go_wp2_with fail
 go_loopw [8] (λA q=>∃i:Nat,i<=a.length/\A = .int .i64 i/\Hid (k+i<=t.length)/\Hid (Eqv (getW R t (a.take i) k w) q)) (λA _=>a.length-(intOf A).toNat)
 case atStart=>exact⟨0,Qxz _,rfl,B.out.1,Eqv.refl w⟩
 obtain⟨i,hi,rfl,W,l⟩:=hrel;by_cases s:i<a.length;rotate_left
 .have E:i=a.length:=by omega
  subst E;have G:Hid (Eqv (getW R t a k w) wr):=by
   have h:=l.out;rw[List.take_length] at h;exact h
  clear l;go_wp2_with fail
  go_end0
  exact Or.inl ⟨rfl,W.out,G⟩
 have q0:(0:Int)<=(i:Int):=by omega
 have q1:(i:Int)<(a.length:Int):=by omega
 obtain⟨P,m⟩:∃P,a.getD i default=P:=⟨_,rfl⟩;have u:Hid (a.take (i+1)=a.take i++[P]/\P∈a/\(a.take i).length=i):=by
  refine⟨?_,?_,by simp;omega⟩
  .rw[List.take_add_one,<-m];simp[List.getD,List.getElem?_eq_getElem s]
  rw[<-m];simp[List.getD,List.getElem?_eq_getElem s]
 have o:∀p∈a.take i,p∈a:=λp d=>List.mem_of_mem_take d;have f:Hid (n9 R wr t (k+i)):=by
  have:=n9.getW (R:=R) (t:=t) (a.take i) k w (λp d=>(x.out p (o p d)).2.1) HR.out;rw[u.out.2.2] at this;exact l.out.blk this
 have D:Hid (rq wr P):=(rq.getW (a.take i) k w (x.out P u.out.2.1).1).eqv l.out;have r:=l.out.blk (L7 R t (a.take i) k w (λp d=>(x.out p (o p d)).2.2) B.out.2.2.2 HG.out);have z0:wr.cell? ⟨g,i,none⟩=some (.pointer (some P)):=by rw[<-m];exact r.cell s
 have z1:=r.lt;obtain⟨⟨pz,M⟩,J,pl⟩:=D.out;have r0:wr.cell? ⟨R,0,none⟩=some (.string ⟨t.toArray⟩):=f.out.k 0;have r1:wr.cell? ⟨R,1,none⟩=some (.int .i64 ((k+i:Nat):Int)):=f.out.k 1;have rf:=Blk.frozen f.out 1;have rl:=Blk.lt f.out;clear r;have tl:((⟨t.toArray⟩:ByteArray).size)=t.length:=by simp[ByteArray.size]
 have T:Hid (∀q,Eqv ((wr.setCell P (.int .i64 (rdN t (k+i)))).setCell ⟨R,1,none⟩ (.int .i64 (((k+i+1:Nat):Int)))) q->Eqv (getW R t (a.take (i+1)) k w) q):=λq h=>by
  rw[u.out.1,Qb,u.out.2.2];exact((l.out.set P _).set ⟨R,1,none⟩ _).trans h
 generalize hKe:k+i=K at *
 by_cases b:K=t.length
 .have c:=hid b;have L:((K:Int)==(t.length:Int))=true:=by rw[b];simp
  clear b M J pl;go_wp2_with fail
  go_quiet (fail)
  go_wp2_with fail;exact⟨rfl,Or.inr ⟨rfl,by have:=c.out;omega,i,l.out.trans (Eqv.drewN wr nq)⟩⟩
 have c:Hid (K<t.length):=by have:=W.out;show _<_;omega
 have L:((K:Int)==(t.length:Int))=false:=by simp;omega
 have F:=tj t c.out;clear b;have zb:=v9 t K
 generalize rdN t K=Z at *
 have Y:wrap64 Z=Z:=by unfold wrap64;omega
 go_wp2_with fail
 go_quiet (fail)
 go_wp2_with fail
 go_region
 have K4:=c.out;have K5:=B.out.2.1;have y:Hid (Eqv (wr.setCell P (.int .i64 Z)) ((wr.drewN (nq+1)).setCell P (.int .i64 Z))):=(Eqv.drewN wr (nq+1)).set P _
 generalize (wr.drewN (nq+1)).setCell P (.int .i64 Z)=U at *
 have n:Hid (n9 R U t K):=y.out.blk (Blk.other f.out (x.out P u.out.2.1).2.1 _);have y0:U.cell? ⟨R,1,none⟩=some (.int .i64 (K:Int)):=n.out.k 1;have y1:=Blk.frozen n.out 1;have y2:=Blk.lt n.out;clear F Y r0 r1 rf rl M J pl z0 z1 L;go_wp2_with fail;go_roundw
 case rel=>exact⟨i+1,by omega,by go_num,(by show k+(i+1)<=t.length;omega),T.out _ (by rw[show(((K+1:Nat):Int))=(K:Int)+1 by omega];exact y.out.set _ _)⟩
 case measure=>simp[intOf];omega
end Go.Proofs.YtbcacebifpagpagGreat
