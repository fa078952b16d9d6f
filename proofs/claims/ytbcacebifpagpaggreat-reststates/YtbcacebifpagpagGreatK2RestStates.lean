/- Texts that were built one behind the other, joined; what RestStates does not reach is left out. -/
import Derived.Test.YtbcacebifpagpagGreatK1RestStates
import Derived.Lib.QuietBelow
import Derived.Maps.AppendAt
import Derived.ArgAppend
import Derived.Deep.Upon
import Derived.BigQuiet
import Derived.Deep.QuietTactic
import Derived.RegionTactic
import Derived.ChangeAlike
import Derived.BigRegion
set_option maxHeartbeats 4000000
set_option maxRecDepth 100000
namespace Go.Proofs.YtbcacebifpagpagGreat
open _root_.Go.Proofs.Tryz
open Go.RowKit Go.Shelf
set_option linter.unusedVariables false
theorem Rp(x:Od)(w:World):
  Calls prog 68 #[x.val] w λe a=>e = .returned (.bool (p9 x))/\Below w.heap.size w a:=by
 unfold p9 Od.val;go_enter func68,ntmps68;go_wp2_with(go_at_call 63;refine ah (ch _ _ _ _) ?_)
 all_goals go_ret
 all_goals exact⟨rfl,brf.alloc nlr _⟩
theorem Nc(B:Nat)(p:Pl)(x:Hd)(w:World)(les:p.ns<=p.cs)(caps:p.cs<=maxLen)(f:B<w.heap.size)(c1:w.cell? ⟨B,1,none⟩=some (.slice p.sa p.ns p.cs)):
  Calls prog 70 #[x.val,.pointer (some ⟨B,0,none⟩)] w λe c=>e = .returned (.bool (jy p x))/\Below w.heap.size w c:=by
 have a:p.ns<=maxLen:=Qzx les caps;unfold maxLen at caps;unfold jy Hd.val;cases g:inB x.o 0 ((p.ns:Int)-1)
 .go_enter func70,ntmps70;go_wp2_with(first|(go_at_call 63;refine ah (ch _ _ _ _) ?_)|(go_at_call 71;refine ah (dk _ _ _ a) ?_))
  all_goals go_ret
  all_goals exact⟨by simp,brf.alloc nlr _⟩
 cases h:inB x.l 1 200
 .go_enter func70,ntmps70;go_wp2_with(first|(go_at_call 63;refine ah (ch _ _ _ _) ?_)|(go_at_call 71;refine ah (dk _ _ _ a) ?_))
  all_goals go_ret
  all_goals exact⟨by simp,brf.alloc nlr _⟩
 cases d:inB x.b 0 x.l
 .go_enter func70,ntmps70;go_wp2_with(first|(go_at_call 63;refine ah (ch _ _ _ _) ?_)|(go_at_call 71;refine ah (dk _ _ _ a) ?_))
  all_goals go_ret
  all_goals exact⟨by simp,brf.alloc nlr _⟩
 go_enter func70,ntmps70;go_wp2_with(first|(go_at_call 63;refine ah (ch _ _ _ _) ?_)|(go_at_call 71;refine ah (dk _ _ _ a) ?_))
 all_goals go_ret
 all_goals exact⟨by simp,brf.alloc nlr _⟩
theorem Pq(B:Nat)(p:Pl)(x:Hd)(w:World)(les:p.ns<=p.cs)(caps:p.cs<=maxLen)(leb:p.nb<=p.cb)(capb:p.cb<=maxLen)(i:B<w.heap.size)(f:w.cell? ⟨B,0,none⟩=some (.slice p.ab p.nb p.cb))(c1:w.cell? ⟨B,1,none⟩=some (.slice p.sa p.ns p.cs)):
  Calls prog 78 #[x.val,.pointer (some ⟨B,0,none⟩)] w λe d=>e = .returned (.bool (lx p x))/\Below w.heap.size w d:=by
 have a:p.ns<=maxLen:=Qzx les caps;have c:p.nb<=maxLen:=Qzx leb capb;unfold maxLen at caps capb;unfold lx Hd.val;cases g:inB x.o 0 ((p.ns:Int)-1)
 .go_enter func78,ntmps78;go_wp2_with(first|(go_at_call 63;refine ah (ch _ _ _ _) ?_)|(go_at_call 71;first|refine ah (dk _ _ _ a) ?_|refine ah (dk _ _ _ c) ?_))
  all_goals go_ret
  all_goals exact⟨by simp,brf.alloc nlr _⟩
 cases j:inB x.l 0 ((p.nb:Int)-1)
 .go_enter func78,ntmps78;go_wp2_with(first|(go_at_call 63;refine ah (ch _ _ _ _) ?_)|(go_at_call 71;first|refine ah (dk _ _ _ a) ?_|refine ah (dk _ _ _ c) ?_))
  all_goals go_ret
  all_goals exact⟨by simp,brf.alloc nlr _⟩
 cases h:inB x.b 0 ((p.nb:Int)-1)
 .go_enter func78,ntmps78;go_wp2_with(first|(go_at_call 63;refine ah (ch _ _ _ _) ?_)|(go_at_call 71;first|refine ah (dk _ _ _ a) ?_|refine ah (dk _ _ _ c) ?_))
  all_goals go_ret
  all_goals exact⟨by simp,brf.alloc nlr _⟩
 cases k:(x.l==x.b)
 .go_enter func78,ntmps78;go_wp2_with(first|(go_at_call 63;refine ah (ch _ _ _ _) ?_)|(go_at_call 71;first|refine ah (dk _ _ _ a) ?_|refine ah (dk _ _ _ c) ?_))
  all_goals go_ret
  all_goals exact⟨by simp,brf.alloc nlr _⟩
 go_enter func78,ntmps78;go_wp2_with(first|(go_at_call 63;refine ah (ch _ _ _ _) ?_)|(go_at_call 71;first|refine ah (dk _ _ _ a) ?_|refine ah (dk _ _ _ c) ?_))
 all_goals go_ret
 all_goals exact⟨by simp,brf.alloc nlr _⟩
theorem Ps(B:Nat)(x low:Int)(w:World)(b:w.cell? ⟨B,0,none⟩=some (.int .i64 low)):
  Calls prog 80 #[.int .i64 x,.pointer (some ⟨B,0,none⟩)] w λe a=>e = .returned (.bool (!inB x low 1048576))/\a=w:=by
 go_enter func80,ntmps80;go_wp2_with(go_at_call 63;refine ah (ch _ _ _ _) ?_)
 all_goals go_ret
 all_goals exact⟨rfl,rfl⟩
theorem Cw(B:Nat)(p:Pl)(r:Rw)(low:Int)(w:World)(f:r.At w)(les:p.ns<=p.cs)(caps:p.cs<=maxLen)(q:B<w.heap.size)(c1:w.cell? ⟨B,1,none⟩=some (.slice p.sa p.ns p.cs)):
  Calls prog 79 #[.slice r.a r.n r.c,.int .i64 low,.pointer (some ⟨B,0,none⟩)] w λe o=>e = .returned (.bool (lr p r low))/\Below w.heap.size w o:=by
 have b:=f.cap;have j:=f.le;have g:=b;unfold maxLen at g caps;have d:Below w.heap.size w (w.alloc (.cells #[.int .i64 low] 3)):=(Below.refl w.heap.size w).alloc nlr _;have ints:=(f.below d).ints;cases k:((r.n:Int) !=(p.ns:Int))
 .go_enter func79,ntmps79;go_wp2_with fail;refine(Ym 80 #[.pointer (some ⟨w.heap.size,0,none⟩)] (λi => !inB (r.z i) low 1048576) _ _ _ _ j b r.z ints (enters_of func80 (by kernel_rfl) rfl) (λi l _ h=>(Ps w.heap.size _ low l ((h.cell (p:=⟨w.heap.size,0,none⟩) (by simp)).trans (by simp))).mono λ_ _ h=>⟨h.1,h.2▸Below.refl _ _⟩)).mono ?_;rintro e l ⟨rfl,m⟩;go_wp2_with fail;go_ret;exact⟨by simp[lr,k],d.trans (m.mono (by simp))⟩
 go_enter func79,ntmps79;go_wp2_with fail;go_ret;exact⟨by simp[lr,k],d⟩
open Go.Sort
def lq(w:World)(Bp Bs:Nat)(p:Pl)(s:St):Prop :=
 (Bp<w.heap.size/\w.cell? ⟨Bp,0,none⟩=some (.slice p.ab p.nb p.cb)/\w.cell? ⟨Bp,1,none⟩=some (.slice p.sa p.ns p.cs)) /\
 Bs<w.heap.size/\w.cell? ⟨Bs,0,none⟩=some (.slice s.on.a s.on.n s.on.c)/\w.cell? ⟨Bs,1,none⟩=some (.slice s.os.a s.os.n s.os.c)/\w.cell? ⟨Bs,2,none⟩=some (.slice s.hs.a s.hs.n s.hs.c) /\
  w.cell? ⟨Bs,3,none⟩=some (.slice s.ms.a s.ms.n s.ms.c)/\w.cell? ⟨Bs,4,none⟩=some (.slice s.si.a s.si.n s.si.c)/\w.cell? ⟨Bs,5,none⟩=some (.slice s.so.a s.so.n s.so.c)/\w.cell? ⟨Bs,6,none⟩=some (.slice s.sf.a s.sf.n s.sf.c)
theorem lq.below{w i:World}{g f:Nat}{p:Pl}{s:St}(h:lq w g f p s)(e:Below w.heap.size w i):lq i g f p s:=by
 obtain⟨⟨a,b,c⟩,d,e0,j,m,l,n,o,k⟩:=h;exact⟨⟨Xzx a e.size,(e.cell (p:=⟨g,0,none⟩) a).trans b,(e.cell (p:=⟨g,1,none⟩) a).trans c⟩,Xzx d e.size,(e.cell (p:=⟨f,0,none⟩) d).trans e0,(e.cell (p:=⟨f,1,none⟩) d).trans j,(e.cell (p:=⟨f,2,none⟩) d).trans m,(e.cell (p:=⟨f,3,none⟩) d).trans l,(e.cell (p:=⟨f,4,none⟩) d).trans n,(e.cell (p:=⟨f,5,none⟩) d).trans o,(e.cell (p:=⟨f,6,none⟩) d).trans k⟩
theorem nk(w:World)(p:Pl)(s:St)(t u:TypeId):lq ((w.alloc (.cells #[.slice p.ab p.nb p.cb,.slice p.sa p.ns p.cs] t)).alloc (.cells s.cells u)) w.heap.size (w.heap.size+1) p s:=by
 have a:=(Blk.new w #[.slice p.ab p.nb p.cb,.slice p.sa p.ns p.cs] t).alloc (.cells s.cells u);have hs:=Blk.new (w.alloc (.cells #[.slice p.ab p.nb p.cb,.slice p.sa p.ns p.cs] t)) s.cells u;rw[World.size_alloc] at hs;exact⟨⟨a.lt,a.cell (j:=0) (by simp),a.cell (j:=1) (by simp)⟩,hs.lt,hs.cell (j:=0) (by simp[St.cells]),hs.cell (j:=1) (by simp[St.cells]),hs.cell (j:=2) (by simp[St.cells]),hs.cell (j:=3) (by simp[St.cells]),hs.cell (j:=4) (by simp[St.cells]),hs.cell (j:=5) (by simp[St.cells]),hs.cell (j:=6) (by simp[St.cells])⟩
theorem js(w:World)(o a:Obj):Below w.heap.size w ((w.alloc o).alloc a):=((Below.refl w.heap.size w).alloc nlr o).alloc (by simp) a
theorem Nd(B f:Nat)(p:Pl)(x:Od)(w:World)(hx:x.ls.At w)(les:p.ns<=p.cs)(caps:p.cs<=maxLen)(g:f<w.heap.size)(c1:w.cell? ⟨f,1,none⟩=some (.slice p.sa p.ns p.cs))(u:B<w.heap.size)(c2:w.cell? ⟨B,0,none⟩=some (.func (.func 70) #[] #[.pointer (some ⟨f,0,none⟩)])):
  Calls prog 72 #[x.val,.pointer (some ⟨B,0,none⟩)] w λe t=>e = .returned (.bool (lp p x))/\Below w.heap.size w t:=by
 unfold Od.val;have d:=hx.cap;have s:=hx.le;have l:=d;unfold maxLen at l;have b:Below w.heap.size w (w.alloc (.cells #[.int .i64 x.k,.slice x.ls.a x.ls.n x.ls.c] 57)):=(Below.refl w.heap.size w).alloc nlr _;have o:=(hx.below b).hds;cases m:inB x.k 0 2
 .go_enter func72,ntmps72;go_wp2_with(go_at_call 63;refine ah (ch _ _ _ _) ?_);go_ret;exact⟨by simp[lp,m],b⟩
 go_enter func72,ntmps72;go_wp2_with(go_at_call 63;refine ah (ch _ _ _ _) ?_);refine(Lo 70 #[.pointer (some ⟨f,0,none⟩)] (λj=>jy p (x.ls.z j)) _ _ _ _ s d x.ls.z o (enters_of func70 (by kernel_rfl) rfl) (λi q _ h=>Nc f p _ q les caps (Xzx g (b.trans (h.mono b.size)).size) (((b.trans (h.mono b.size)).cell (p:=⟨f,1,none⟩) g).trans c1))).mono ?_;rintro e q ⟨rfl,r⟩;go_wp2_with fail;go_ret;exact⟨by simp[lp,m],b.trans (r.mono b.size)⟩
theorem S0(s:St)(w:World)(hs:s.At w):
  Calls prog 33 #[s.val] w λe o=>e = .returned (.bool (fs s))/\Below w.heap.size w o:=by
 unfold St.val;have f:=hs.os.cap;have k:=hs.os.le;have a:Below w.heap.size w (w.alloc (.cells s.cells 31)):=(Below.refl w.heap.size w).alloc nlr _;have g:=(hs.os.below a).ods;unfold St.cells at a g;cases c:decide (4<s.os.n);rotate_left
 .have h:(4:Int)<(s.os.n:Int):=by have:=of_decide_eq_true c;omega
  have b:=hid c;clear c;go_enter func33,ntmps33;go_wp2_with fail;go_ret;exact⟨by simp[fs,b.out],a⟩
 have h:¬(4:Int)<(s.os.n:Int):=by have:=of_decide_eq_false c;omega
 cases d:decide (8<s.ms.n)
 .have j:¬(8:Int)<(s.ms.n:Int):=by have:=of_decide_eq_false d;omega
  have b:=qa2 c d;clear c d;go_enter func33,ntmps33;go_wp2_with fail;refine(Zw 68 #[] (λi=>p9 (s.os.z i)) _ _ _ _ k f s.os.z g (enters_of func68 (by kernel_rfl) rfl) (λi m _ _=>by rw[Array.append_empty];exact Rp _ _)).mono ?_;rintro e m ⟨rfl,l⟩;go_wp2_with fail;go_ret;exact⟨by simp[fs,b.out.1,b.out.2],a.trans (l.mono a.size)⟩
 have j:(8:Int)<(s.ms.n:Int):=by have:=of_decide_eq_true d;omega
 have b:=hid d;clear c d;go_enter func33,ntmps33;go_wp2_with fail;go_ret;exact⟨by simp[fs,b.out],a⟩
theorem Pr(p:Pl)(s:St)(w:World)(m:p.At w)(hs:s.At w):
  Calls prog 34 #[p.val,s.val] w λe B=>e = .returned (.bool (jf p s))/\Below w.heap.size w B:=by
 have X:=nk w p s 25 31;have f:=js w (.cells #[.slice p.ab p.nb p.cb,.slice p.sa p.ns p.cs] 25) (.cells s.cells 31);unfold St.cells at X f;have d:=hs.os.cap;have u:=hs.os.le;unfold Pl.val St.val;go_enter func34,ntmps34;go_wp2_with fail;obtain⟨W,t,g,v⟩:∃W,(((w.alloc (.cells #[.slice p.ab p.nb p.cb,.slice p.sa p.ns p.cs] 25)).alloc (.cells #[.slice s.on.a s.on.n s.on.c,.slice s.os.a s.os.n s.os.c,.slice s.hs.a s.hs.n s.hs.c,.slice s.ms.a s.ms.n s.ms.c,.slice s.si.a s.si.n s.si.c,.slice s.so.a s.so.n s.so.c,.slice s.sf.a s.sf.n s.sf.c] 31)).alloc (.cells #[.func (.func 70) #[] #[.pointer (some ⟨w.heap.size,0,none⟩)]] 104))=W/\Below (w.heap.size+2) ((w.alloc (.cells #[.slice p.ab p.nb p.cb,.slice p.sa p.ns p.cs] 25)).alloc (.cells #[.slice s.on.a s.on.n s.on.c,.slice s.os.a s.os.n s.os.c,.slice s.hs.a s.hs.n s.hs.c,.slice s.ms.a s.ms.n s.ms.c,.slice s.si.a s.si.n s.si.c,.slice s.so.a s.so.n s.so.c,.slice s.sf.a s.sf.n s.sf.c] 31)) W/\Blk W (w.heap.size+1+1) 104 1 (λj=>(#[.func (.func 70) #[] #[.pointer (some ⟨w.heap.size,0,none⟩)]]:Array Value).getD j default):=
  ⟨_,rfl,brf.alloc (by simp) _,Blk.mk' (by simp) rfl⟩
 rw[t];have y:=X.below (by simpa using g);have b:Below w.heap.size w W:=f.trans (g.mono (by omega));clear X t;have l:=(hs.os.below b).ods;refine(Zw 72 #[.pointer (some ⟨w.heap.size+1+1,0,none⟩)] (λi=>lp p (s.os.z i)) _ _ _ _ u d s.os.z l (enters_of func72 (by kernel_rfl) rfl) (λi r hi h => ?_)).mono ?_
 .obtain⟨_,_,_,_,_,_,A⟩:=(A9.below l h) i hi;have o:=y.below h;have q:=v.below h;exact Nd (w.heap.size+1+1) w.heap.size p _ r A m.les m.caps o.1.1 o.1.2.2 q.lt (q.k 0)
 rintro e r ⟨rfl,x⟩;go_wp2_with fail;go_ret;exact⟨rfl,b.trans (x.mono b.size)⟩
theorem Ab(w:World)(p:Pl)(s:St):∃W,((w.alloc (.cells #[.slice p.ab p.nb p.cb,.slice p.sa p.ns p.cs] 25)).alloc (.cells #[.slice s.on.a s.on.n s.on.c,.slice s.os.a s.os.n s.os.c,.slice s.hs.a s.hs.n s.hs.c,.slice s.ms.a s.ms.n s.ms.c,.slice s.si.a s.si.n s.si.c,.slice s.so.a s.so.n s.so.c,.slice s.sf.a s.sf.n s.sf.c] 31)).alloc (.cells #[.slice .none 0 0,.slice .none 0 0,.slice .none 0 0,.slice .none 0 0,.slice .none 0 0,.slice .none 0 0,.slice .none 0 0] 31)=W/\Below w.heap.size w W/\lq W w.heap.size (w.heap.size+1) p s/\Blk W (w.heap.size+2) 31 7 (λ_ => .slice .none 0 0):=
 ⟨_,rfl,(js _ _ _).alloc (by simp;omega) _,(nk w p s _ _).below ((Below.refl _ _).alloc (Nat.le_refl _) _),(Blk.mk' (cur:=#[.slice .none 0 0,.slice .none 0 0,.slice .none 0 0,.slice .none 0 0,.slice .none 0 0,.slice .none 0 0,.slice .none 0 0]) (by simp) rfl).congr (λj b=>by match j,b with|0,_=>rfl|1,_=>rfl|2,_=>rfl|3,_=>rfl|4,_=>rfl|5,_=>rfl|6,_=>rfl)⟩
theorem yu{w c:World}{p:Pl}{s:St}(e:p.At w)(hs:s.At w)(b:Below w.heap.size w c)(f:lq c w.heap.size (w.heap.size+1) p s)(d:Blk c (w.heap.size+2) 31 7 (λ_ => .slice .none 0 0)):Hid (∀a,Below c.heap.size c a->lq a w.heap.size (w.heap.size+1) p s/\p.At a/\s.At a/\Below w.heap.size w a/\Blk a (w.heap.size+2) 31 7 (λ_ => .slice .none 0 0)):=λa h=>⟨f.below h,(e.below b).below h,(hs.below b).below h,b.trans (h.mono b.size),d.below h⟩
theorem Ih(w:World)(p:Pl)(s:St):∃W,(w.alloc (.cells #[.slice p.ab p.nb p.cb,.slice p.sa p.ns p.cs] 25)).alloc (.cells #[.slice s.on.a s.on.n s.on.c,.slice s.os.a s.os.n s.os.c,.slice s.hs.a s.hs.n s.hs.c,.slice s.ms.a s.ms.n s.ms.c,.slice s.si.a s.si.n s.si.c,.slice s.so.a s.so.n s.so.c,.slice s.sf.a s.sf.n s.sf.c] 31)=W/\Below w.heap.size w W/\lq W w.heap.size (w.heap.size+1) p s:=⟨_,rfl,js _ _ _,nk w p s _ _⟩
theorem Gd{w c:World}{p:Pl}{s:St}(d:p.At w)(hs:s.At w)(a:Below w.heap.size w c)(e:lq c w.heap.size (w.heap.size+1) p s):Hid (∀b,Below c.heap.size c b->lq b w.heap.size (w.heap.size+1) p s/\p.At b/\s.At b/\Below w.heap.size w b):=λb h=>⟨e.below h,(d.below a).below h,(hs.below a).below h,a.trans (h.mono a.size)⟩
theorem Qg(p:Pl)(s:St)(w:World)(b:p.At w)(hs:s.At w):
  Calls prog 36 #[p.val,s.val] w λe l=>e = .returned (.bool (j8 p s))/\Below w.heap.size w l:=by
 have X:=nk w p s 25 31;have a:=js w (.cells #[.slice p.ab p.nb p.cb,.slice p.sa p.ns p.cs] 25) (.cells s.cells 31);have d:=(hs.ms.below a).hds;unfold St.cells at X a d;have c:=hs.ms.cap;have g:=hs.ms.le;unfold Pl.val St.val;go_enter func36,ntmps36;go_wp2_with fail;refine(ab6 78 #[.pointer (some ⟨w.heap.size,0,none⟩)] (λi=>lx p (s.ms.z i)) _ _ _ _ g c s.ms.z d (enters_of func78 (by kernel_rfl) rfl) (λi j hi h => ?_)).mono ?_
 .have f:=X.below h;exact Pq w.heap.size p _ j b.les b.caps b.leb b.capb f.1.1 f.1.2.1 f.1.2.2
 rintro e j ⟨rfl,k⟩;go_wp2_with fail;go_ret;exact⟨rfl,a.trans (k.mono a.size)⟩
theorem R8(p:Pl)(s:St)(w:World)(f:p.At w)(hs:s.At w):
  Calls prog 37 #[p.val,s.val] w λe t=>e = .returned (.bool (fj p s))/\Below w.heap.size w t:=by
 have X:=nk w p s 25 31;have b:=js w (.cells #[.slice p.ab p.nb p.cb,.slice p.sa p.ns p.cs] 25) (.cells s.cells 31);have x:=enters_of func79 (by kernel_rfl) rfl;unfold Pl.val St.val;go_enter func37,ntmps37;go_wp2_with fail;obtain⟨W,h⟩:∃W,((w.alloc (.cells #[.slice p.ab p.nb p.cb,.slice p.sa p.ns p.cs] 25)).alloc (.cells s.cells 31))=W:=⟨_,rfl⟩;rw[h] at X b;unfold St.cells at h;rw[h];clear h;refine(Cw w.heap.size p s.si 0 W (hs.si.below b) f.les f.caps X.1.1 X.1.2.2).mono ?_;rintro e o ⟨rfl,a⟩;have g:=X.below a;have c:=b.trans (a.mono b.size);clear X b a;cases k:lr p s.si 0;rotate_left
 .go_wp2_with fail;go_ret;exact⟨by simp[fj,k],c⟩
 have n:=g;obtain⟨-,i,-,-,-,-,-,q,-⟩:=n;go_wp2_with fail;refine(Cw w.heap.size p s.so 0 o (hs.so.below c) f.les f.caps g.1.1 g.1.2.2).mono ?_;rintro e m ⟨rfl,a⟩;have j:=g.below a;have d:=c.trans (a.mono c.size);clear g c a q i;cases l:lr p s.so 0
 .have r:=j;obtain⟨-,i,-,-,-,-,-,-,u⟩:=r;go_wp2_with fail;refine(Cw w.heap.size p s.sf (-1048576) m (hs.sf.below d) f.les f.caps j.1.1 j.1.2.2).mono ?_;rintro e v ⟨rfl,a⟩;go_wp2_with fail;go_ret;exact⟨by simp[fj,k,l],d.trans (a.mono d.size)⟩
 go_wp2_with fail;go_ret;exact⟨by simp[fj,l],d⟩
theorem Pp(K G:Nat)(p:Pl)(s:St)(x:Hd)(w:World)(i:p.At w)(hs:s.os.At w)(X:lq w K G p s):
  Calls prog 74 #[x.val,.pointer (some ⟨G,0,none⟩),.pointer (some ⟨K,0,none⟩)] w λe U=>e = .returned (.bool (i6 p s x))/\Below w.heap.size w U:=by
 obtain⟨W,H,a,r⟩:∃W,w.alloc (.cells #[.int .i64 x.o,.int .i64 x.l,.int .i64 x.b,.int .i64 x.n] 61)=W/\Below w.heap.size w W/\Blk W w.heap.size 61 4 (λj=>(#[.int .i64 x.o,.int .i64 x.l,.int .i64 x.b,.int .i64 x.n]:Array Value).getD j default):=⟨_,rfl,(Below.refl w.heap.size w).alloc nlr _,Blk.mk' rfl rfl⟩;have A:Hid (w.alloc (.cells #[.int .i64 x.o,.int .i64 x.l,.int .i64 x.b,.int .i64 x.n] 61)=W):=H;have v:=X.below a;have os:=hs.below a;have J:=os.le;have f:=os.cap;have ac:s.os.n<=maxLen:=Qzx J f;have ab:p.nb<=maxLen:=Qzx i.leb i.capb;have y:=i.capb;have aa:=i.leb;have B:=f;unfold maxLen at B y;have Y:=Qqq (r.k 0);have r1:=Qqq (r.k 1);have r2:=Qqq (r.k 2);have T:=Qqq v.2.2.2.1;have r4:=Qqq v.1.2.1;clear H;unfold Hd.val;cases g:inB x.o 0 ((s.os.n:Int)-1)
 .go_enter func74,ntmps74;go_wp2_with fail;rw[A.out];refine Qxq (by kernel_rfl) (by kernel_rfl) ?_
  repeat(go_big_quiet_step((go_at_call 71;exact Xxz ((dk _ _ _ (by assumption)).mono (λ_ _ h=>⟨h.1,h.2▸Below.refl _ _⟩)))))
  refine Qqz ?_;intro _ d;obtain⟨⟨F,t⟩,c⟩:=d;subst c;go_wp2_with fail;go_ret;exact⟨by simp[i6,g],a.trans ((Qxx _ _ _).mono a.size)⟩
 obtain⟨m,q⟩:=Qzz (aq g).1;have E:m<s.os.n:=by have:=(aq g).2;omega
 obtain⟨b,o,u,hb,-,Q,S⟩:=os.ods m E;have V:(s.os.z m).ls.n<=maxLen:=Qzx S.le S.cap;have D:Hid (i6 p s x=(!inB x.l 0 (((s.os.z m).ls.n:Int)-1) || !inB x.b 0 ((p.nb:Int)-1))):=by
  show i6 p s x=_;unfold i6;rw[g,q,Int.toNat_natCast]
  rfl
 rw[q] at Y g;simp only[u] at T;have r5:=Qqq Q;have m1:(0:Int)<=(m:Int):=by omega
 have m2:(m:Int)<(s.os.n:Int):=by omega
 have M:=hid q;clear q u Q os v X r
 generalize (s.os.z m).ls=L at *
 cases P:inB x.l 0 ((L.n:Int)-1)
 .go_enter func74,ntmps74;go_wp2_with fail;rw[A.out,M.out];refine Qxq (by kernel_rfl) (by kernel_rfl) ?_
  repeat(go_big_quiet_step((go_at_call 71;exact Xxz ((dk _ _ _ (by assumption)).mono (λ_ _ h=>⟨h.1,h.2▸Below.refl _ _⟩)))))
  refine Qqz ?_;intro _ d;obtain⟨⟨F,t⟩,c⟩:=d;subst c;go_wp2_with fail;go_ret;exact⟨by rw[D.out,P];simp,a.trans ((Qxx _ _ _).mono a.size)⟩
 go_enter func74,ntmps74;go_wp2_with fail;rw[A.out,M.out];refine Qxq (by kernel_rfl) (by kernel_rfl) ?_
 repeat(go_big_quiet_step((go_at_call 71;exact Xxz ((dk _ _ _ (by assumption)).mono (λ_ _ h=>⟨h.1,h.2▸Below.refl _ _⟩)))))
 refine Qqz ?_;intro _ d;obtain⟨⟨F,t⟩,c⟩:=d;subst c;go_wp2_with fail;go_ret;exact⟨by rw[D.out,P];simp,a.trans ((Qxx _ _ _).mono a.size)⟩
theorem Qf(p:Pl)(s:St)(w:World)(v:p.At w)(hs:s.At w):
  Calls prog 35 #[p.val,s.val] w λe x=>e = .returned (.bool (gj p s))/\Below w.heap.size w x:=by
 have X:=nk w p s 25 31;have a:=js w (.cells #[.slice p.ab p.nb p.cb,.slice p.sa p.ns p.cs] 25) (.cells s.cells 31);have j:=hs.hs.cap;have q:=hs.hs.le;have d:=v.below a;have c:=hs.below a;unfold Pl.val St.val;go_enter func35,ntmps35;go_wp2_with fail;obtain⟨W,g⟩:∃W,((w.alloc (.cells #[.slice p.ab p.nb p.cb,.slice p.sa p.ns p.cs] 25)).alloc (.cells s.cells 31))=W:=⟨_,rfl⟩;rw[g] at X a d c;unfold St.cells at g;rw[g];clear g;refine(ts s.hs W c.hs).mono ?_;rintro e B ⟨rfl,b⟩;have m:=X.below b;have f:=a.trans (b.mono a.size);have o:=d.below b;have k:=c.below b;clear X a b d c;by_cases t:gw s.hs.n s.hs.z=0
 .have u:=m;obtain⟨-,y,-,-,A,-⟩:=u;go_wp2_with fail;refine(ab5 74 #[.pointer (some ⟨w.heap.size+1,0,none⟩),.pointer (some ⟨w.heap.size,0,none⟩)] (λi=>i6 p s (s.hs.z i)) _ _ _ _ q j s.hs.z k.hs.hds (enters_of func74 (by kernel_rfl) rfl) (λi l hi h => ?_)).mono ?_
  .exact Pp w.heap.size (w.heap.size+1) p s _ l (o.below h) (k.os.below h) (m.below h)
  rintro e l ⟨rfl,r⟩;go_wp2_with fail;go_ret;exact⟨by simp[gj,t],f.trans (r.mono f.size)⟩
 go_wp2_with fail;go_ret;exact⟨by simp[gj,t],f⟩
theorem Ww(x:Hd)(w:World):
  Calls prog 83 #[x.val] w λe a=>e = .returned (.bool (jr x))/\Below w.heap.size w a:=by
 unfold jr Hd.val;go_enter func83,ntmps83;go_wp2_with fail;go_ret;exact⟨rfl,brf.alloc nlr _⟩
theorem G7(k:Int)(x:Hd)(kept:Int)(w:World)(i:0<=x.b/\x.b<=200)(m:0<=x.n/\x.n<=200)(h:0<=kept/\kept<=14400):
  Calls prog 85 #[.int .i64 k,x.val,.int .i64 kept] w λe g=>e = .returned (.bool (co k x kept))/\Below w.heap.size w g:=by
 unfold Hd.val;by_cases c:k=0
 .have a:Hid (co k x kept=(!(x.b==0) || !(x.n==0) || !(kept==0))):=by show co k x kept=_;simp only[co,if_pos c]
  rw[a.out];subst c;clear a;cases f:(x.b==0)
  .go_enter func85,ntmps85;go_wp2_with fail
   all_goals go_ret
   all_goals exact⟨by first|rfl|simp_all,brf.alloc nlr _⟩
  cases j:(x.n==0)
  .go_enter func85,ntmps85;go_wp2_with fail
   all_goals go_ret
   all_goals exact⟨by first|rfl|simp_all,brf.alloc nlr _⟩
  go_enter func85,ntmps85;go_wp2_with fail
  all_goals go_ret
  all_goals exact⟨by first|rfl|simp_all,brf.alloc nlr _⟩
 by_cases d:k=2
 .have a:Hid (co k x kept=(!(x.b+x.n==x.l) || !(kept==0))):=by show co k x kept=_;simp only[co,if_neg c,if_pos d]
  rw[a.out];subst d;clear a c;cases f:(x.b+x.n==x.l)
  .go_enter func85,ntmps85;go_wp2_with fail
   all_goals go_ret
   all_goals exact⟨by first|rfl|simp_all,brf.alloc nlr _⟩
  go_enter func85,ntmps85;go_wp2_with fail
  all_goals go_ret
  all_goals exact⟨by first|rfl|simp_all,brf.alloc nlr _⟩
 have a:Hid (co k x kept = !(x.b+x.n+kept==x.l)):=by show co k x kept=_;simp only[co,if_neg c,if_neg d]
 rw[a.out];clear a;go_enter func85,ntmps85;go_wp2_with fail
 all_goals go_ret
 all_goals exact⟨rfl,brf.alloc nlr _⟩
theorem Wq{p:Pl}{s:St}{w:World}{k:Nat}(f:cv p s)(hs:s.os.At w)(A:k<s.hs.n):
  ∃(c b b1 d b2 g N C:Nat),(s.hs.z k).o=(c:Int)/\(s.hs.z k).l=(b:Int)/\c<s.os.n/\b<N/\N<=C/\C<=maxLen/\s.os.a=some ⟨b1,d,none⟩/\b1<w.heap.size/\b2<w.heap.size /\
   w.cell? ⟨b1,d+c*2+1,none⟩=some (.slice (some ⟨b2,g,none⟩) N C)/\w.cell? ⟨b2,g+b*4,none⟩=some (.int .i64 (jo s (s.hs.z k))):=by
 obtain⟨⟨x,a1⟩,⟨l0,e⟩,-⟩:=iq (f.home k A);obtain⟨c,u⟩:=Qzz x;obtain⟨b,r⟩:=Qzz l0;have i:(s.hs.z k).o.toNat=c:=by omega
 have t:(s.hs.z k).l.toNat=b:=by omega
 have D:jo s (s.hs.z k)=((s.os.z c).ls.z b).o:=by unfold jo;rw[i,t]
 rw[i] at a1 e;rw[t] at e;obtain⟨b1,d,B,j,-,m,h⟩:=hs.ods c a1;obtain⟨b2,g,q,v,y,-⟩:=h.hds b e;rw[q] at m;exact⟨c,b,b1,d,b2,g,_,_,u,r,a1,e,h.le,h.cap,B,j,v,m,by rw[D];exact y⟩
theorem Ma{s:St}{b g:Int}{k:Nat}(c:(s.hs.z k).b=b)(a:jo s (s.hs.z k)=g):bw s b g (k+1)=bw s b g k+(s.hs.z k).n:=by simp only[bw];rw[if_pos ⟨c,a⟩]
theorem J0{s:St}{b g:Int}{k:Nat}(h:¬((s.hs.z k).b=b/\jo s (s.hs.z k)=g)):bw s b g (k+1)=bw s b g k:=by simp only[bw];rw[if_neg h,Int.add_zero]
theorem Fu{s:St}{b g:Int}{k:Nat}(c:(s.ms.z k).l=b)(a:(s.ms.z k).o=g):az s b g (k+1)=az s b g k+(s.ms.z k).n:=by simp only[az];rw[if_pos ⟨c,a⟩]
theorem Jz{s:St}{b g:Int}{k:Nat}(h:¬((s.ms.z k).l=b/\(s.ms.z k).o=g)):az s b g (k+1)=az s b g k:=by simp only[az];rw[if_neg h,Int.add_zero]
theorem N7(p:Pl)(s:St)(bin good:Nat)(w:World)(hs:s.At w)(f:cv p s)(bs:bin<p.nb)(au:good<p.ns):
  Calls prog 82 #[s.val,.int .i64 bin,.int .i64 good] w λe w'=>e = .returned (.int .i64 (ar s bin good))/\Below w.heap.size w w':=by
 obtain⟨A,a0,ao,X⟩:∃A,w.alloc (.cells s.cells 31)=A/\Below w.heap.size w A/\Blk A w.heap.size 31 7 (λj=>s.cells.getD j default):=⟨_,rfl,(Below.refl w.heap.size w).alloc nlr _,Blk.mk' rfl rfl⟩;have y:=hs.below ao;have HC:Hid (∀D,Below A.heap.size A D->s.At D/\D.cell? ⟨w.heap.size,0,none⟩=some (.slice s.on.a s.on.n s.on.c)/\D.cell? ⟨w.heap.size,1,none⟩=some (.slice s.os.a s.os.n s.os.c)/\D.cell? ⟨w.heap.size,2,none⟩=some (.slice s.hs.a s.hs.n s.hs.c)/\D.cell? ⟨w.heap.size,3,none⟩=some (.slice s.ms.a s.ms.n s.ms.c)/\w.heap.size<D.heap.size):=
  λD h=>⟨y.below h,(X.below h).k 0,(X.below h).k 1,(X.below h).k 2,(X.below h).k 3,(X.below h).lt⟩
 have M:=f.sh.n;obtain⟨bo,oo,T,cj,y0,L⟩:=hs.on.rows bin (by omega);have ap:=f.sh.len bin (by omega);have bu:=f.sh.num bin (by omega) good au;obtain⟨br,ch,a3,ck,y1⟩:=L.ints good (by omega);have a9:=L.le;have ax:=L.cap;have a5:=y.on.le;have av:=y.on.cap;have bp:=y.hs.le;have ay:=y.hs.cap;have ce:=y.ms.le;have aq:=y.ms.cap;have bn:=y.os.le;have ad:=y.os.cap;unfold maxLen at ax av ay aq ad;rw[a3] at y0;have ci:=f.hs72;have m8:=f.ms8;have HB:Hid (∀k,k<=s.hs.n->0<=bw s bin good k/\bw s bin good k<=200*k):=λk hk=>mr λj hj=>f.holdN j (by omega);have MB:Hid (∀k,k<=s.ms.n->0<=az s bin good k/\az s bin good k<=200*k):=λk hk=>jq λj hj=>f.moveN j (by omega);have HW:Hid (w.alloc (.cells #[.slice (some ⟨bo,oo,none⟩) p.nb s.on.c,.slice s.os.a s.os.n s.os.c,.slice s.hs.a s.hs.n s.hs.c,.slice s.ms.a s.ms.n s.ms.c,.slice s.si.a s.si.n s.si.c,.slice s.so.a s.so.n s.so.c,.slice s.sf.a s.sf.n s.sf.c] 31)=A):=by
  show _=A;rw[<-a0,<-T,<-M]
  rfl
 have HN:Hid (s.on.n=p.nb/\(s.on.r bin).n=p.ns/\(s.on.r bin).z good+0=(s.on.r bin).z good):=⟨M,ap,Int.add_zero _⟩;have HO:=hid T;rw[ap] at y0 a9;rw[M] at a5;have q0:(0:Int)<=(bin:Int):=by omega
 have q1:(0:Int)<=(good:Int):=by omega
 simp only[St.val,T,M];clear X a0 L M ap T a3;go_enter func82,ntmps82;go_wp2_with fail;rw[HW.out]
 go_loopw [7,23] (λu i D=>∃k:Nat,k<=s.hs.n/\i = .int .i64 k/\u = .int .i64 ((s.on.r bin).z good-bw s bin good k)/\Below A.heap.size A D) (λ_ i _=>s.hs.n-(intOf i).toNat)
 case atStart=>exact⟨0,Qxz _,rfl,by simp[bw],Below.refl _ _⟩
 obtain⟨k,hk,rfl,rfl,K⟩:=hrel;have m1:=HB.out k hk;obtain⟨H,c0,c1,c2,c3,S⟩:=HC.out wr K;by_cases ak:k<s.hs.n;rotate_left
 .have af:k=s.hs.n:=by omega
  subst af
  generalize hHH:bw s bin good s.hs.n=HH at *
  have bk:=hid hHH;clear hHH H;go_wp2_with fail
  go_loopw [7,55] (λu i D=>∃k:Nat,k<=s.ms.n/\i = .int .i64 k/\u = .int .i64 ((s.on.r bin).z good-HH-az s bin good k)/\Below A.heap.size A D) (λ_ i _=>s.ms.n-(intOf i).toNat)
  case atStart=>exact⟨0,Qxz _,rfl,by simp[az],K⟩
  clear K c0 c1 c2 c3 S;obtain⟨k,hk,rfl,rfl,K⟩:=hrel;have m2:=MB.out k hk;by_cases aa:k<s.ms.n;rotate_left
  .have af:k=s.ms.n:=by omega
   subst af;go_wp2_with fail;go_ret;exact⟨by rw[<-bk.out];rfl,ao.trans (K.mono ao.size)⟩
  obtain⟨H,c0,c1,c2,c3,S⟩:=HC.out wr K;obtain⟨b,q,a2,hb,z0,z1,z2,z3⟩:=H.ms.hds k aa;have m3:=f.moveN k aa;have B:Hid (((s.ms.z k).l=bin/\(s.ms.z k).o=good->az s bin good (k+1)=az s bin good k+(s.ms.z k).n)/\(¬((s.ms.z k).l=bin/\(s.ms.z k).o=good)->az s bin good (k+1)=az s bin good k)):=⟨λh=>Fu h.1 h.2,Jz⟩;have q4:(0:Int)<=(k:Int):=by omega
  have F:=λo=>K.alloc (Qzx K.size nlr) o;have ab:=hid F;rw[a2];clear a2 c0 c1 c2 c3 H F
  generalize az s bin good k=U at *
  generalize (s.ms.z k).l=BB at *
  generalize (s.ms.z k).n=NN at *
  generalize (s.ms.z k).o=GD at *
  cases h1:(BB==(bin:Int))
  .have t:=B.out.2 (by simp at h1;omega);have E:=hid t;clear t B;go_wp2_with fail;go_roundw
   case rel=>exact⟨k+1,by omega,by go_num,by rw[E.out],ab.out _⟩
   case measure=>simp[intOf];omega
  cases h2:(GD==(good:Int))
  .have t:=B.out.2 (by simp at h2;omega);have E:=hid t;clear t B;go_wp2_with fail;go_roundw
   case rel=>exact⟨k+1,by omega,by go_num,by rw[E.out],ab.out _⟩
   case measure=>simp[intOf];omega
  have t:=B.out.1 ⟨by simpa using h1,by simpa using h2⟩;have E:=hid t;clear t B;go_wp2_with fail;go_roundw
  case rel=>exact⟨k+1,by omega,by go_num,by rw[E.out,Int.sub_sub _ U],ab.out _⟩
  case measure=>simp[intOf];omega
 obtain⟨b,q,al,hb,z0,z1,z2,z3⟩:=H.hs.hds k ak;have m2:=f.holdN k ak;obtain⟨Y,ml,b1,o1,b2,o2,N,C,ai,ac,g1,g2,g3,g4,Q,g5,g6,g7,g8⟩:=Wq f H.os ak;have HG:=qa4 al Q ai ac;obtain⟨m,ag,x,J⟩:∃m,wr.alloc (.cells #[.int .i64 Y,.int .i64 ml,.int .i64 (s.hs.z k).b,.int .i64 (s.hs.z k).n] 61)=m/\Below A.heap.size A m/\Blk m wr.heap.size 61 4 (λj=>(#[.int .i64 Y,.int .i64 ml,.int .i64 (s.hs.z k).b,.int .i64 (s.hs.z k).n]:Array Value).getD j default):=⟨_,rfl,K.alloc K.size _,Blk.mk' rfl rfl⟩;have F:Below wr.heap.size wr m:=by rw[<-ag];exact brf.alloc nlr _
 have r0:=Qqq (J.k 0);have r1:=Qqq (J.k 1);have r2:=Qqq (J.k 2);have W:=Qqq (J.k 3);rw[Q] at c1;rw[ai] at z0;rw[ac] at z1;have r4:∀d os,(grow (redrawn m d) os).cell? ⟨w.heap.size,1,none⟩=some (.slice (some ⟨b1,o1,none⟩) s.os.n s.os.c):=λd os=>Qqq ((F.cell (p:=⟨w.heap.size,1,none⟩) S).trans c1) d os;have r5:∀d os,(grow (redrawn m d) os).cell? ⟨b1,o1+Y*2+1,none⟩=some (.slice (some ⟨b2,o2,none⟩) N C):=λd os=>Qqq ((F.cell (p:=⟨b1,o1+Y*2+1,none⟩) g5).trans g7) d os;have r6:∀d os,(grow (redrawn m d) os).cell? ⟨b2,o2+ml*4,none⟩=some (.int .i64 (jo s (s.hs.z k))):=λd os=>Qqq ((F.cell (p:=⟨b2,o2+ml*4,none⟩) g6).trans g8) d os;have V:=hid ag;have q2:(0:Int)<=(Y:Int):=by omega
 have q3:(0:Int)<=(ml:Int):=by omega
 have q4:(0:Int)<=(k:Int):=by omega
 have B:Hid (((s.hs.z k).b=bin/\jo s (s.hs.z k)=good->bw s bin good (k+1)=bw s bin good k+(s.hs.z k).n)/\(¬((s.hs.z k).b=bin/\jo s (s.hs.z k)=good)->bw s bin good (k+1)=bw s bin good k)):=⟨λh=>Ma h.1 h.2,J0⟩;rw[al];unfold maxLen at g4;clear ai ac Q al ag c0 c1 c2 c3 H F
 generalize jo s (s.hs.z k)=GD at *
 generalize bw s bin good k=U at *
 generalize (s.hs.z k).b=BB at *
 generalize (s.hs.z k).n=NN at *
 cases h1:(BB==(bin:Int))
 .have t:=B.out.2 (by simp at h1;omega);have E:=hid t;clear t B;go_wp2_with fail;rw[V.out];refine Qxq (by kernel_rfl) (by kernel_rfl) ?_
  repeat(go_big_quiet_step(fail))
  refine Qqz ?_;intro _ P;obtain⟨⟨v,g⟩,G⟩:=P;subst G;have hC:=x.trans ((Qxx m v g).mono x.size);have a1:=W v g;have a4:wr.heap.size<(grow (redrawn m v) g).heap.size:=Xzx J.lt (Qxx m v g).size;clear r0 r1 r2 W r4 r5 r6 J x V
  generalize grow (redrawn m v) g=wz at *
  go_wp2_with fail;go_roundw
  case rel=>exact⟨k+1,by omega,by go_num,by rw[E.out],hC⟩
  case measure=>simp[intOf];omega
 cases h2:(GD==(good:Int));rotate_left
 .have t:=B.out.1 ⟨by simpa using h1,by simpa using h2⟩;have E:=hid t;clear t B;go_wp2_with fail;rw[V.out];refine Qxq (by kernel_rfl) (by kernel_rfl) ?_
  repeat(go_big_quiet_step(fail))
  refine Qqz ?_;intro _ P;obtain⟨⟨v,g⟩,G⟩:=P;subst G;have hC:=x.trans ((Qxx m v g).mono x.size);have a1:=W v g;have a4:wr.heap.size<(grow (redrawn m v) g).heap.size:=Xzx J.lt (Qxx m v g).size;clear r0 r1 r2 W r4 r5 r6 J x V
  generalize grow (redrawn m v) g=wz at *
  go_wp2_with fail;go_roundw
  case rel=>exact⟨k+1,by omega,by go_num,by rw[E.out,Int.sub_sub],hC⟩
  case measure=>simp[intOf];omega
 have t:=B.out.2 (by simp at h2;omega);have E:=hid t;clear t B;go_wp2_with fail;rw[V.out];refine Qxq (by kernel_rfl) (by kernel_rfl) ?_
 repeat(go_big_quiet_step(fail))
 refine Qqz ?_;intro _ P;obtain⟨⟨v,g⟩,G⟩:=P;subst G;have hC:=x.trans ((Qxx m v g).mono x.size);have a1:=W v g;have a4:wr.heap.size<(grow (redrawn m v) g).heap.size:=Xzx J.lt (Qxx m v g).size;clear r0 r1 r2 W r4 r5 r6 J x V
 generalize grow (redrawn m v) g=wz at *
 go_wp2_with fail;go_roundw
 case rel=>exact⟨k+1,by omega,by go_num,by rw[E.out],hC⟩
 case measure=>simp[intOf];omega
theorem Hn(p:Pl)(s:St)(bin good:Nat)(w:World)(hs:s.At w)(f:cv p s):
  Calls prog 113 #[s.val,.int .i64 bin,.int .i64 good] w λe w'=>e = .returned (.int .i64 (bw s bin good s.hs.n+az s bin good s.ms.n))/\Below w.heap.size w w':=by
 obtain⟨y,an,ak,S⟩:∃y,w.alloc (.cells s.cells 31)=y/\Below w.heap.size w y/\Blk y w.heap.size 31 7 (λj=>s.cells.getD j default):=⟨_,rfl,(Below.refl w.heap.size w).alloc nlr _,Blk.mk' rfl rfl⟩;have F:=hs.below ak;have bg:w.heap.size<y.heap.size:=S.lt;have HC:Hid (∀G,Below y.heap.size y G->s.At G/\G.cell? ⟨w.heap.size,1,none⟩=some (.slice s.os.a s.os.n s.os.c)/\G.cell? ⟨w.heap.size,2,none⟩=some (.slice s.hs.a s.hs.n s.hs.c)/\G.cell? ⟨w.heap.size,3,none⟩=some (.slice s.ms.a s.ms.n s.ms.c)/\w.heap.size<G.heap.size):=
  λG h=>⟨F.below h,(S.below h).k 1,(S.below h).k 2,(S.below h).k 3,(S.below h).lt⟩
 have ba:=F.hs.le;have am:=F.hs.cap;have br:=F.ms.le;have al:=F.ms.cap;have a9:=F.os.le;have Y:=F.os.cap;unfold maxLen at am al Y;have bu:=f.hs72;have m8:=f.ms8;have HB:Hid (∀k,k<=s.hs.n->0<=bw s bin good k/\bw s bin good k<=200*k):=λk hk=>mr λj hj=>f.holdN j (by omega);have MB:Hid (∀k,k<=s.ms.n->0<=az s bin good k/\az s bin good k<=200*k):=λk hk=>jq λj hj=>f.moveN j (by omega);have HW:Hid (w.alloc (.cells #[.slice s.on.a s.on.n s.on.c,.slice s.os.a s.os.n s.os.c,.slice s.hs.a s.hs.n s.hs.c,.slice s.ms.a s.ms.n s.ms.c,.slice s.si.a s.si.n s.si.c,.slice s.so.a s.so.n s.so.c,.slice s.sf.a s.sf.n s.sf.c] 31)=y):=an;simp only[St.val];clear S an;go_enter func113,ntmps113;go_wp2_with fail;rw[HW.out]
 go_loopw [7,8] (λu i G=>∃k:Nat,k<=s.hs.n/\i = .int .i64 k/\u = .int .i64 (bw s bin good k)/\Below y.heap.size y G) (λ_ i _=>s.hs.n-(intOf i).toNat)
 case atStart=>exact⟨0,Qxz _,rfl,by simp[bw],Below.refl _ _⟩
 obtain⟨k,hk,rfl,rfl,J⟩:=hrel;have m1:=HB.out k hk;obtain⟨v,c1,c2,c3,K⟩:=HC.out wr J;by_cases ag:k<s.hs.n;rotate_left
 .have ab:k=s.hs.n:=by omega
  subst ab
  generalize hHH:bw s bin good s.hs.n=HH at *
  have a6:=hid hHH;clear hHH v;go_wp2_with fail
  go_loopw [7,10] (λu i G=>∃k:Nat,k<=s.ms.n/\i = .int .i64 k/\u = .int .i64 (HH+az s bin good k)/\Below y.heap.size y G) (λ_ i _=>s.ms.n-(intOf i).toNat)
  case atStart=>exact⟨0,Qxz _,rfl,by simp[az],J⟩
  clear J c1 c2 c3 K;obtain⟨k,hk,rfl,rfl,J⟩:=hrel;have m2:=MB.out k hk;by_cases V:k<s.ms.n;rotate_left
  .have ab:k=s.ms.n:=by omega
   subst ab;obtain⟨v,c1,c2,c3,K⟩:=HC.out wr J;clear v c1 c2;go_wp2_with fail;go_ret;exact⟨by rw[<-a6.out];rfl,ak.trans (J.mono ak.size)⟩
  obtain⟨v,c1,c2,c3,K⟩:=HC.out wr J;obtain⟨b,q,ap,hb,z0,z1,z2,z3⟩:=v.ms.hds k V;have m3:=f.moveN k V;have A:Hid (((s.ms.z k).l=bin/\(s.ms.z k).o=good->az s bin good (k+1)=az s bin good k+(s.ms.z k).n)/\(¬((s.ms.z k).l=bin/\(s.ms.z k).o=good)->az s bin good (k+1)=az s bin good k)):=⟨λh=>Fu h.1 h.2,Jz⟩;have q4:(0:Int)<=(k:Int):=by omega
  have D:=J;have W:=hid D;rw[ap] at c3;clear ap c1 c2 v D
  generalize az s bin good k=U at *
  generalize (s.ms.z k).l=BB at *
  generalize (s.ms.z k).n=NN at *
  generalize (s.ms.z k).o=GD at *
  cases h1:(BB==(bin:Int))
  .have r:=A.out.2 (by simp at h1;omega);have B:=hid r;clear r A;go_wp2_with fail;go_roundw
   case rel=>exact⟨k+1,by omega,by go_num,by rw[B.out],W.out⟩
   case measure=>simp[intOf];omega
  cases h2:(GD==(good:Int))
  .have r:=A.out.2 (by simp at h2;omega);have B:=hid r;clear r A;go_wp2_with fail;go_roundw
   case rel=>exact⟨k+1,by omega,by go_num,by rw[B.out],W.out⟩
   case measure=>simp[intOf];omega
  have r:=A.out.1 ⟨by simpa using h1,by simpa using h2⟩;have B:=hid r;clear r A;go_wp2_with fail;go_roundw
  case rel=>exact⟨k+1,by omega,by go_num,by rw[B.out,Int.add_assoc],W.out⟩
  case measure=>simp[intOf];omega
 obtain⟨b,q,ah,hb,z0,z1,z2,z3⟩:=v.hs.hds k ag;have m2:=f.holdN k ag;obtain⟨T,ml,b1,o1,b2,o2,N,C,ae,X,g1,g2,g3,g4,M,g5,g6,g7,g8⟩:=Wq f v.os ag;have HG:=qa4 ah M ae X;obtain⟨m,ac,x,H⟩:∃m,wr.alloc (.cells #[.int .i64 T,.int .i64 ml,.int .i64 (s.hs.z k).b,.int .i64 (s.hs.z k).n] 61)=m/\Below y.heap.size y m/\Blk m wr.heap.size 61 4 (λj=>(#[.int .i64 T,.int .i64 ml,.int .i64 (s.hs.z k).b,.int .i64 (s.hs.z k).n]:Array Value).getD j default):=⟨_,rfl,J.alloc J.size _,Blk.mk' rfl rfl⟩;have D:Below wr.heap.size wr m:=by rw[<-ac];exact brf.alloc nlr _
 have r0:=Qqq (H.k 0);have r1:=Qqq (H.k 1);have r2:=Qqq (H.k 2);have Q:=Qqq (H.k 3);rw[M] at c1;rw[ae] at z0;rw[X] at z1;have r4:∀d os,(grow (redrawn m d) os).cell? ⟨w.heap.size,1,none⟩=some (.slice (some ⟨b1,o1,none⟩) s.os.n s.os.c):=λd os=>Qqq ((D.cell (p:=⟨w.heap.size,1,none⟩) K).trans c1) d os;have r5:∀d os,(grow (redrawn m d) os).cell? ⟨b1,o1+T*2+1,none⟩=some (.slice (some ⟨b2,o2,none⟩) N C):=λd os=>Qqq ((D.cell (p:=⟨b1,o1+T*2+1,none⟩) g5).trans g7) d os;have r6:∀d os,(grow (redrawn m d) os).cell? ⟨b2,o2+ml*4,none⟩=some (.int .i64 (jo s (s.hs.z k))):=λd os=>Qqq ((D.cell (p:=⟨b2,o2+ml*4,none⟩) g6).trans g8) d os;have P:=hid ac;have q2:(0:Int)<=(T:Int):=by omega
 have q3:(0:Int)<=(ml:Int):=by omega
 have q4:(0:Int)<=(k:Int):=by omega
 have A:Hid (((s.hs.z k).b=bin/\jo s (s.hs.z k)=good->bw s bin good (k+1)=bw s bin good k+(s.hs.z k).n)/\(¬((s.hs.z k).b=bin/\jo s (s.hs.z k)=good)->bw s bin good (k+1)=bw s bin good k)):=⟨λh=>Ma h.1 h.2,J0⟩;rw[ah] at c2;unfold maxLen at g4;clear ae X M ah ac c1 c3 v D
 generalize jo s (s.hs.z k)=GD at *
 generalize bw s bin good k=U at *
 generalize (s.hs.z k).b=BB at *
 generalize (s.hs.z k).n=NN at *
 cases h1:(BB==(bin:Int))
 .have r:=A.out.2 (by simp at h1;omega);have B:=hid r;clear r A;go_wp2_with fail;rw[P.out];refine Qxq (by kernel_rfl) (by kernel_rfl) ?_
  repeat(go_big_quiet_step(fail))
  refine Qqz ?_;intro _ L;obtain⟨⟨t,g⟩,E⟩:=L;subst E;have hC:=x.trans ((Qxx m t g).mono x.size);have ao:=Q t g;have aq:wr.heap.size<(grow (redrawn m t) g).heap.size:=Xzx H.lt (Qxx m t g).size;clear r0 r1 r2 Q r4 r5 r6 H x P
  generalize grow (redrawn m t) g=wz at *
  go_wp2_with fail;go_roundw
  case rel=>exact⟨k+1,by omega,by go_num,by rw[B.out],hC⟩
  case measure=>simp[intOf];omega
 cases h2:(GD==(good:Int));rotate_left
 .have r:=A.out.1 ⟨by simpa using h1,by simpa using h2⟩;have B:=hid r;clear r A;go_wp2_with fail;rw[P.out];refine Qxq (by kernel_rfl) (by kernel_rfl) ?_
  repeat(go_big_quiet_step(fail))
  refine Qqz ?_;intro _ L;obtain⟨⟨t,g⟩,E⟩:=L;subst E;have hC:=x.trans ((Qxx m t g).mono x.size);have ao:=Q t g;have aq:wr.heap.size<(grow (redrawn m t) g).heap.size:=Xzx H.lt (Qxx m t g).size;clear r0 r1 r2 Q r4 r5 r6 H x P
  generalize grow (redrawn m t) g=wz at *
  go_wp2_with fail;go_roundw
  case rel=>exact⟨k+1,by omega,by go_num,by rw[B.out],hC⟩
  case measure=>simp[intOf];omega
 have r:=A.out.2 (by simp at h2;omega);have B:=hid r;clear r A;go_wp2_with fail;rw[P.out];refine Qxq (by kernel_rfl) (by kernel_rfl) ?_
 repeat(go_big_quiet_step(fail))
 refine Qqz ?_;intro _ L;obtain⟨⟨t,g⟩,E⟩:=L;subst E;have hC:=x.trans ((Qxx m t g).mono x.size);have ao:=Q t g;have aq:wr.heap.size<(grow (redrawn m t) g).heap.size:=Xzx H.lt (Qxx m t g).size;clear r0 r1 r2 Q r4 r5 r6 H x P
 generalize grow (redrawn m t) g=wz at *
 go_wp2_with fail;go_roundw
 case rel=>exact⟨k+1,by omega,by go_num,by rw[B.out],hC⟩
 case measure=>simp[intOf];omega
theorem aby{p:Pl}{s:Sh}{g:Nat}(a:ev p s=0)(b:g<p.ns):Gt p s (g:Int)=0/\Ks p s (g:Int)=cu (λi=>(s.r i).z g) s.n:=by
 have h:Gt p s (g:Int)=0:=by
  unfold Gt;rw[a,bq ⟨by omega,by omega⟩]
  rfl
 exact⟨h,by simp[Ks,h]⟩
theorem pu{p:Pl}{s:St}{g:Nat}:ij p s g=(!(cu (λi=>(s.on.r i).z g) s.on.n==s.si.z g-s.so.z g+s.sf.z g)||aw p.nb (λb=>decide (ar s b g<0))):=rfl
theorem N5(p:Pl)(s:St)(w:World)(hp:p.At w)(hs:s.At w)(f:cv p s):
  Calls prog 38 #[p.val,s.val] w λe w'=>e = .returned (.bool (kw p s))/\Below w.heap.size w w':=by
 obtain⟨D,hW,k,X0⟩:=Ih w p s;have K:Hid (∀t,Below D.heap.size D t->lq t w.heap.size (w.heap.size+1) p s/\p.At t/\s.At t):=λt h=>⟨X0.below h,(hp.below k).below h,(hs.below k).below h⟩;have HW:=hid hW;have ns3:=f.sh.pl.ns3;have nb6:=f.sh.pl.nb6;have d:=hid f;have ay:Hid (∀g,g<p.ns->0<=cu (λi=>(s.on.r i).z g) s.on.n/\cu (λi=>(s.on.r i).z g) s.on.n<=1200):=λg hg=>by
  have:=De (z:=λi=>(s.on.r i).z g) (n:=s.on.n) (λj q=>f.sh.num j q g hg) s.on.n nlr;have:=f.sh.n;omega
 clear hW X0 f;unfold Pl.val St.val;go_enter func38,ntmps38;go_wp2_with fail;rw[HW.out]
 go_loopw [12] (λi t=>∃g:Nat,g<=p.ns/\i = .int .i64 g/\(∀j,j<g->ij p s j=false)/\Below D.heap.size D t) (λi _=>p.ns-(intOf i).toNat)
 case atStart=>exact⟨0,Qxz _,rfl,λj q=>absurd q (Qzq _),Below.refl _ _⟩
 obtain⟨g,hg,rfl,u,m⟩:=hrel;have HN:=hid u;clear u;by_cases c:g<p.ns;rotate_left
 .go_wp2_with fail;go_ret;exact⟨by rw[kw,ct λj q=>HN.out j (by omega)];rfl,k.trans (m.mono k.size)⟩
 obtain⟨X,l,a⟩:=K.out wr m;obtain⟨⟨H,d0,d1⟩,o,E,-⟩:=X;obtain⟨W,U⟩:=aby d.out.sh0 c;go_wp2_with fail;refine(aaf p s.on g wr l a.on).mono ?_;rintro e w1 ⟨rfl,S⟩;rw[W,U];clear W U H o d0 d1 E l a;have x:=m.trans (S.mono m.size);clear S;obtain⟨X,l,a⟩:=K.out w1 x;obtain⟨-,o,-,-,-,-,Y,e5,e6⟩:=X;obtain⟨b1,o1,a1,g1,y1⟩:=a.si.ints g (by rw[d.out.sin];exact c);obtain⟨b2,o2,a2,g2,y2⟩:=a.so.ints g (by rw[d.out.son];exact c);obtain⟨b3,o3,a3,g3,y3⟩:=a.sf.ints g (by rw[d.out.sfn];exact c);have u1:=d.out.sib g c;have u2:=d.out.sob g c;have u3:=d.out.sfb g c;have u4:=ay.out g c;rw[a1,d.out.sin] at Y;rw[a2,d.out.son] at e5;rw[a3,d.out.sfn] at e6;have v1:=a.si.le;have v2:=a.so.le;have v3:=a.sf.le;have v4:=a.si.cap;have v5:=a.so.cap;have v6:=a.sf.cap;rw[d.out.sin] at v1;rw[d.out.son] at v2;rw[d.out.sfn] at v3;unfold maxLen at v4 v5 v6;have r1:=Qqq Y;have r2:=Qqq e5;have r3:=Qqq e6;have r4:=Qqq y1;have r5:=Qqq y2;have r6:=Qqq y3;have q1:(0:Int)<=(g:Int):=by omega
 have P:Hid (ij p s g=(!(cu (λi=>(s.on.r i).z g) s.on.n==s.si.z g-s.so.z g+s.sf.z g)||aw p.nb (λb=>decide (ar s b g<0)))):=pu;clear Y e5 e6 y1 y2 y3 a1 a2 a3 l a m
 generalize cu (λi=>(s.on.r i).z g) s.on.n=A at *
 generalize s.si.z g=I1 at *
 generalize s.so.z g=I2 at *
 generalize s.sf.z g=I3 at *
 go_wp2_with fail;refine Qxq (by kernel_rfl) (by kernel_rfl) ?_
 repeat(go_big_quiet_step(fail))
 refine Qqz ?_;intro _ an;obtain⟨⟨dq,V⟩,aa⟩:=an;subst aa;have L:=x.trans ((Qxx w1 dq V).mono x.size);clear r1 r2 r3 r4 r5 r6 x
 generalize grow (redrawn w1 dq) V=wz at *
 cases y:(A==I1-I2+I3)
 .have M:Hid (ij p s g=true):=by show ij p s g=true;rw[P.out,y];rfl
  have v:(A !=I1-I2+I3)=true:=by simp[bne,y]
  rw[v];clear y v P;go_wp2_with fail;go_ret;exact⟨by rw[kw,dt c M.out];rfl,k.trans (L.mono k.size)⟩
 have v:(A !=I1-I2+I3)=false:=by simp[bne,y]
 have M:Hid (ij p s g=aw p.nb (λb=>decide (ar s b g<0))):=by show ij p s g=_;rw[P.out,y];rfl
 rw[v];clear y v P;obtain⟨X,l,a⟩:=K.out wz L;obtain⟨⟨H,d0,d1⟩,o,E,c1,c2,c3,c4,c5,c6⟩:=X;clear E c1 c2 c3 c4 c5 c6 d1 l a;have bl:=hp.leb;have a0:=hp.capb;unfold maxLen at a0;go_wp2_with fail
 go_loopw [45] (λi t=>∃b:Nat,b<=p.nb/\i = .int .i64 b/\(∀j,j<b->decide (ar s j g<0)=false)/\Below D.heap.size D t) (λi _=>p.nb-(intOf i).toNat)
 case atStart=>exact⟨0,Qxz _,rfl,λj q=>absurd q (Qzq _),L⟩
 clear L H o d0;obtain⟨b,hb,rfl,u,m⟩:=hrel;have HM:=hid u;clear u;by_cases Q:b<p.nb;rotate_left
 .have F:Hid (ij p s g=false):=by show ij p s g=false;rw[M.out];exact ct λj q=>HM.out j (by omega)
  go_wp2_with fail;go_roundw
  case measure=>simp[intOf];omega
  refine⟨g+1,by omega,by go_num,?_,m⟩;intro j q;by_cases J:j=g
  .rw[J];exact F.out
  exact HN.out j (by omega)
 obtain⟨X,l,a⟩:=K.out wr m;obtain⟨-,o,E,c1,c2,c3,c4,c5,c6⟩:=X;go_wp2_with fail;refine(N7 p s b g wr a d.out Q c).mono ?_;rintro e w2 ⟨rfl,T⟩;clear o E c1 c2 c3 c4 c5 c6 l a;have x:=m.trans (T.mono m.size);clear T;cases B:decide (ar s b g<0)
 .have F:=hid B;have G:¬ar s b g<0:=of_decide_eq_false B
  generalize ar s b g=AV at G ⊢
  clear B;go_wp2_with fail;go_roundw
  case measure=>simp[intOf];omega
  refine⟨b+1,by omega,by go_num,?_,x⟩;intro j q;by_cases J:j=b
  .rw[J];exact F.out
  exact HM.out j (by omega)
 have F:Hid (ij p s g=true):=by show ij p s g=true;rw[M.out];exact dt Q B
 have G:ar s b g<0:=of_decide_eq_true B
 generalize ar s b g=AV at G ⊢
 clear B;go_wp2_with fail;go_ret;exact⟨by rw[kw,dt c F.out];rfl,k.trans (x.mono k.size)⟩
theorem S9{s:Hs}{o l:Int}(h:aw s.n (cz s.z)=false):(if gw s.n s.z=0 then keptS s.z o l s.n else 0)=keptS s.z o l s.n/\gw s.n s.z=0:=by
 have:gw s.n s.z=0:=by simp[gw,h]
 exact⟨if_pos this,this⟩
theorem G8{s:St}{i:Nat}:cf s i=(((s.os.z i).k==1 && !aw (s.os.z i).ls.n (λj=>jr ((s.os.z i).ls.z j)))||aw (s.os.z i).ls.n (λj=>co (s.os.z i).k ((s.os.z i).ls.z j) (keptS s.hs.z i j s.hs.n))):=rfl
theorem M1(p:Pl)(s:St)(w:World)(hs:s.At w)(f:cv p s):
  Calls prog 39 #[s.val] w λe w'=>e = .returned (.bool (je s))/\Below w.heap.size w w':=by
 obtain⟨x,bc,D,hX⟩:∃x,w.alloc (.cells s.cells 31)=x/\Below w.heap.size w x/\Blk x w.heap.size 31 7 (λj=>s.cells.getD j default):=⟨_,rfl,(Below.refl w.heap.size w).alloc nlr _,Blk.mk' rfl rfl⟩;have be:=hs.below D;have HC:Hid (∀m,Below x.heap.size x m->s.At m/\m.cell? ⟨w.heap.size,2,none⟩=some (.slice s.hs.a s.hs.n s.hs.c)/\w.heap.size<m.heap.size):=
  λm h=>⟨be.below h,(hX.below h).k 2,(hX.below h).lt⟩
 have HW:Hid (w.alloc (.cells #[.slice s.on.a s.on.n s.on.c,.slice s.os.a s.os.n s.os.c,.slice s.hs.a s.hs.n s.hs.c,.slice s.ms.a s.ms.n s.ms.c,.slice s.si.a s.si.n s.si.c,.slice s.so.a s.so.n s.so.c,.slice s.sf.a s.sf.n s.sf.c] 31)=x):=bc;have os4:=f.os4;have ca:=hs.os.le;have bb:=hs.os.cap;have ch:=f.hs72;have HF:=hid f;unfold maxLen at bb;clear bc hX be f;unfold St.val;go_enter func39,ntmps39;go_wp2_with fail;rw[HW.out]
 go_loopw [12] (λi m=>∃k:Nat,k<=s.os.n/\i = .int .i64 k/\(∀j,j<k->cf s j=false)/\Below x.heap.size x m) (λi _=>s.os.n-(intOf i).toNat)
 case atStart=>exact⟨0,Qxz _,rfl,λj X=>absurd X (Qzq _),Below.refl _ _⟩
 obtain⟨i,hi,rfl,F,hB⟩:=hrel;have HN:=hid F;clear F;by_cases Y:i<s.os.n;rotate_left
 .go_wp2_with fail;go_ret;exact⟨by rw[je,ct λj X=>HN.out j (by omega)];rfl,D.trans (hB.mono D.size)⟩
 obtain⟨G,c2,ar⟩:=HC.out wr hB;obtain⟨b,o,bd,hb,z0,z1,hl⟩:=G.os.ods i Y;have q1:(0:Int)<=(i:Int):=by omega
 have HE:Hid (cf s i=(((s.os.z i).k==1 && !aw (s.os.z i).ls.n (λj=>jr ((s.os.z i).ls.z j)))||aw (s.os.z i).ls.n (λj=>co (s.os.z i).k ((s.os.z i).ls.z j) (keptS s.hs.z i j s.hs.n)))):=G8;have HL:Hid (∀j,j<(s.os.z i).ls.n->(0<=((s.os.z i).ls.z j).b/\((s.os.z i).ls.z j).b<=200)/\(0<=((s.os.z i).ls.z j).n/\((s.os.z i).ls.z j).n<=200)/\0<=keptS s.hs.z i j s.hs.n/\keptS s.hs.z i j s.hs.n<=14400):=λj X=>by
  have a:=dz (HF.out.line i Y j X);have c:=ro (z:=s.hs.z) (i:Int) (j:Int) s.hs.n HF.out.holdN;omega
 have n3:=(HF.out.lns i Y).2;have HB:=hid hb;rw[bd];clear bd G c2
 generalize (s.os.z i).k=u at *
 generalize (s.os.z i).ls=d at *
 obtain⟨W1,a0,ag,hY⟩:∃W1,wr.alloc (.cells #[.int .i64 u,.slice d.a d.n d.c] 57)=W1/\Below x.heap.size x W1/\Blk W1 wr.heap.size 57 2 (λj=>(#[.int .i64 u,.slice d.a d.n d.c]:Array Value).getD j default):=⟨_,rfl,hB.alloc hB.size _,Blk.mk' rfl rfl⟩;have HV:=hid a0;have V:d.At W1:=by rw[<-a0];exact hl.below (brf.alloc nlr _)
 clear a0;cases h1:(u==1)
 .have ad:Hid (cf s i=aw d.n (λj=>co u (d.z j) (keptS s.hs.z i j s.hs.n))):=by show cf s i=_;rw[HE.out,h1];rfl
  clear HE;go_wp2_with fail;rw[HV.out];have ac:=ag;have ae:=V;have A:=hY;obtain⟨T,g⟩:∃T,wr.heap.size=T:=⟨_,rfl⟩;rw[g] at A ⊢;have HD:Hid (∀m,Below W1.heap.size W1 m->d.At m/\m.cell? ⟨T,0,none⟩=some (.int .i64 u)/\T<m.heap.size/\Below x.heap.size x m):=λm h=>⟨ae.below h,(A.below h).k 0,(A.below h).lt,ac.trans (h.mono ac.size)⟩;clear ae A hl hB ar z0 z1 g ag V hY HV HB hb
  go_loopw [29] (λi0 m=>∃k:Nat,k<=d.n/\i0 = .int .i64 k/\(∀j,j<k->co u (d.z j) (keptS s.hs.z i j s.hs.n)=false)/\Below W1.heap.size W1 m) (λi0 _=>d.n-(intOf i0).toNat)
  case atStart=>exact⟨0,Qxz _,rfl,λj X=>absurd X (Qzq _),Below.refl _ _⟩
  obtain⟨j,X,rfl,F,v⟩:=hrel;have HM:=hid F;clear F;by_cases S:j<d.n;rotate_left
  .have HA:Hid (cf s i=false):=by show cf s i=false;rw[ad.out];exact ct λq aj=>HM.out q (by omega)
   have r:=(HD.out wr v).2.2.2;go_wp2_with fail;go_roundw
   case measure=>simp[intOf];omega
   refine⟨i+1,by omega,by go_num,?_,r⟩;intro q aj;by_cases W:q=i
   .rw[W];exact HA.out
   exact HN.out q (by omega)
  obtain⟨ah,d0,J,r⟩:=HD.out wr v;obtain⟨G,c2,ar⟩:=HC.out wr r;obtain⟨b',o',ak,b5,y0,y1,y2,y3⟩:=ah.hds j S;have q2:(0:Int)<=(j:Int):=by omega
  obtain⟨k1,k2,k3⟩:=HL.out j S;have HT:Hid (co u (d.z j) (keptS s.hs.z i j s.hs.n)=true->cf s i=true):=λh=>by rw[ad.out];exact dt S h
  have HU:Hid (co u (d.z j) (keptS s.hs.z i j s.hs.n)=false->∀q,q<j+1->co u (d.z q) (keptS s.hs.z i q s.hs.n)=false):=λh q aj=>by
   by_cases W:q=j
   .rw[W];exact h
   exact HM.out q (by omega)
  have ai:=S9 (s:=s.hs) (o:=i) (l:=j) HF.out.hold;have y:=(Below.refl wr.heap.size wr).alloc nlr (.cells #[.int .i64 (d.z j).o,.int .i64 (d.z j).l,.int .i64 (d.z j).b,.int .i64 (d.z j).n] 59);have af:=Blk.new wr #[.int .i64 (d.z j).o,.int .i64 (d.z j).l,.int .i64 (d.z j).b,.int .i64 (d.z j).n] 59;have P:=hid ai;rw[ak];clear ak ah HM ai
  generalize d.z j=E at *
  go_wp2_with fail;refine(P5 s.hs i j _ (G.hs.below y)).mono ?_;rintro e M ⟨rfl,L⟩;rw[P.out.1,P.out.2]
  generalize keptS s.hs.z i j s.hs.n=KP at *
  have g:=y.trans (L.mono y.size);have t:=af.below L;have d0:=(g.cell (p:=⟨T,0,none⟩) J).trans d0;have J:=Xzx J g.size;have t0:M.cell? ⟨wr.heap.size,0,none⟩=some (.int .i64 E.o):=t.cell (j:=0) (by simp);have t1:M.cell? ⟨wr.heap.size,1,none⟩=some (.int .i64 E.l):=t.cell (j:=1) (by simp);have t2:M.cell? ⟨wr.heap.size,2,none⟩=some (.int .i64 E.b):=t.cell (j:=2) (by simp);have t3:M.cell? ⟨wr.heap.size,3,none⟩=some (.int .i64 E.n):=t.cell (j:=3) (by simp);have bx:=t.lt;have U:=v.trans (g.mono v.size);have K:=r.trans (g.mono r.size);clear L af y t g G c2 y0 y1 y2 y3 v r P;go_wp2_with fail;refine(G7 u E KP M k1 k2 k3).mono ?_;rintro e w5 ⟨rfl,Q⟩;have a5:=U.trans (Q.mono U.size);have a4:=K.trans (Q.mono K.size);clear Q U K t0 t1 t2 t3 d0;cases hw:co u E KP
  .have H:=HU.out hw;have B:Hid _:=H;clear hw H HU HT;go_wp2_with fail;go_roundw
   case rel=>exact⟨j+1,by omega,by go_num,B.out,a5⟩
   case measure=>simp[intOf];omega
  have H:=HT.out hw;have B:=hid H;clear hw H HU HT;go_wp2_with fail;go_ret;exact⟨by rw[je,dt Y B.out];rfl,D.trans (a4.mono D.size)⟩
 have bt:=V.le;have au:=V.cap;have bp:=au;unfold maxLen at bp;go_wp2_with fail;rw[HV.out];refine(Lo 83 #[] (λj=>jr (d.z j)) _ _ _ _ bt au d.z V.hds (enters_of func83 (by kernel_rfl) rfl) (λi w1 _ _=>by rw[Array.append_empty];exact Ww _ _)).mono ?_;rintro e W2 ⟨rfl,ax⟩;have an:=ag.trans (ax.mono ag.size);have a6:=V.below ax;have av:=hY.below ax;have d1:=av.cell (j:=1) (by simp);have b2:W2.cell? ⟨wr.heap.size,1,none⟩=some (.slice d.a d.n d.c):=d1;have bu:=av.lt;clear d1 ax;cases h2:aw d.n (λj=>jr (d.z j))
 .have B:Hid (cf s i=true):=by show cf s i=true;rw[HE.out,h1,h2];rfl
  clear h2;go_wp2_with fail;go_ret;exact⟨by rw[je,dt Y B.out];rfl,D.trans (an.mono D.size)⟩
 have ad:Hid (cf s i=aw d.n (λj=>co u (d.z j) (keptS s.hs.z i j s.hs.n))):=by show cf s i=_;rw[HE.out,h1,h2];rfl
 clear HE h2;go_wp2_with fail;clear b2 bu;have ac:=an;have ae:=a6;have A:=av;obtain⟨T,g⟩:∃T,wr.heap.size=T:=⟨_,rfl⟩;rw[g] at A ⊢;have HD:Hid (∀m,Below W2.heap.size W2 m->d.At m/\m.cell? ⟨T,0,none⟩=some (.int .i64 u)/\T<m.heap.size/\Below x.heap.size x m):=λm h=>⟨ae.below h,(A.below h).k 0,(A.below h).lt,ac.trans (h.mono ac.size)⟩;clear ae A hl hB ar z0 z1 g ag V hY HV HB hb an a6 av
 go_loopw [29] (λi0 m=>∃k:Nat,k<=d.n/\i0 = .int .i64 k/\(∀j,j<k->co u (d.z j) (keptS s.hs.z i j s.hs.n)=false)/\Below W2.heap.size W2 m) (λi0 _=>d.n-(intOf i0).toNat)
 case atStart=>exact⟨0,Qxz _,rfl,λj X=>absurd X (Qzq _),Below.refl _ _⟩
 obtain⟨j,X,rfl,F,v⟩:=hrel;have HM:=hid F;clear F;by_cases S:j<d.n;rotate_left
 .have HA:Hid (cf s i=false):=by show cf s i=false;rw[ad.out];exact ct λq aj=>HM.out q (by omega)
  have r:=(HD.out wr v).2.2.2;go_wp2_with fail;go_roundw
  case measure=>simp[intOf];omega
  refine⟨i+1,by omega,by go_num,?_,r⟩;intro q aj;by_cases W:q=i
  .rw[W];exact HA.out
  exact HN.out q (by omega)
 obtain⟨ah,d0,J,r⟩:=HD.out wr v;obtain⟨G,c2,ar⟩:=HC.out wr r;obtain⟨b',o',ak,b5,y0,y1,y2,y3⟩:=ah.hds j S;have q2:(0:Int)<=(j:Int):=by omega
 obtain⟨k1,k2,k3⟩:=HL.out j S;have HT:Hid (co u (d.z j) (keptS s.hs.z i j s.hs.n)=true->cf s i=true):=λh=>by rw[ad.out];exact dt S h
 have HU:Hid (co u (d.z j) (keptS s.hs.z i j s.hs.n)=false->∀q,q<j+1->co u (d.z q) (keptS s.hs.z i q s.hs.n)=false):=λh q aj=>by
  by_cases W:q=j
  .rw[W];exact h
  exact HM.out q (by omega)
 have ai:=S9 (s:=s.hs) (o:=i) (l:=j) HF.out.hold;have y:=(Below.refl wr.heap.size wr).alloc nlr (.cells #[.int .i64 (d.z j).o,.int .i64 (d.z j).l,.int .i64 (d.z j).b,.int .i64 (d.z j).n] 59);have af:=Blk.new wr #[.int .i64 (d.z j).o,.int .i64 (d.z j).l,.int .i64 (d.z j).b,.int .i64 (d.z j).n] 59;have P:=hid ai;rw[ak];clear ak ah HM ai
 generalize d.z j=E at *
 go_wp2_with fail;refine(P5 s.hs i j _ (G.hs.below y)).mono ?_;rintro e M ⟨rfl,L⟩;rw[P.out.1,P.out.2]
 generalize keptS s.hs.z i j s.hs.n=KP at *
 have g:=y.trans (L.mono y.size);have t:=af.below L;have d0:=(g.cell (p:=⟨T,0,none⟩) J).trans d0;have J:=Xzx J g.size;have t0:M.cell? ⟨wr.heap.size,0,none⟩=some (.int .i64 E.o):=t.cell (j:=0) (by simp);have t1:M.cell? ⟨wr.heap.size,1,none⟩=some (.int .i64 E.l):=t.cell (j:=1) (by simp);have t2:M.cell? ⟨wr.heap.size,2,none⟩=some (.int .i64 E.b):=t.cell (j:=2) (by simp);have t3:M.cell? ⟨wr.heap.size,3,none⟩=some (.int .i64 E.n):=t.cell (j:=3) (by simp);have bx:=t.lt;have U:=v.trans (g.mono v.size);have K:=r.trans (g.mono r.size);clear L af y t g G c2 y0 y1 y2 y3 v r P;go_wp2_with fail;refine(G7 u E KP M k1 k2 k3).mono ?_;rintro e w5 ⟨rfl,Q⟩;have a5:=U.trans (Q.mono U.size);have a4:=K.trans (Q.mono K.size);clear Q U K t0 t1 t2 t3 d0;cases hw:co u E KP
 .have H:=HU.out hw;have B:Hid _:=H;clear hw H HU HT;go_wp2_with fail;go_roundw
  case rel=>exact⟨j+1,by omega,by go_num,B.out,a5⟩
  case measure=>simp[intOf];omega
 have H:=HT.out hw;have B:=hid H;clear hw H HU HT;go_wp2_with fail;go_ret;exact⟨by rw[je,dt Y B.out];rfl,D.trans (a4.mono D.size)⟩
def ja(p:Pl)(s:St):Bool := !(kw p s||je s)
theorem Th{p:Pl}{s:St}{g:Nat}(a:g<p.ns)(h:ij p s g=true):ja p s=false:=by
 have:kw p s=true:=dt a h;simp[ja,this]
theorem Ko{p:Pl}{s:St}{i:Nat}(hi:i<s.os.n)(h:cf s i=true):ja p s=false:=by
 have:je s=true:=dt hi h;simp[ja,this]
theorem abw{p:Pl}{s:St}(b:∀g,g<p.ns->ij p s g=false)(c:∀i,i<s.os.n->cf s i=false):ja p s=true:=by
 have a:kw p s=false:=ct b;have d:je s=false:=ct c;simp[ja,a,d]
theorem ab0{p:Pl}{s:St}{g:Nat}(h:¬cu (λi=>(s.on.r i).z g) s.on.n=s.si.z g-s.so.z g+s.sf.z g):ij p s g=true:=by
 rw[pu];have:(cu (λi=>(s.on.r i).z g) s.on.n==s.si.z g-s.so.z g+s.sf.z g)=false:=by simpa using h
 rw[this];rfl
theorem Zu{p:Pl}{s:St}{g b:Nat}(a:b<p.nb)(h:(s.on.r b).z g<bw s b g s.hs.n+az s b g s.ms.n):ij p s g=true:=by
 rw[pu,dt a (decide_eq_true (by unfold ar;omega)),Bool.or_true]
theorem aci{p:Pl}{s:St}{g:Nat}(h:cu (λi=>(s.on.r i).z g) s.on.n=s.si.z g-s.so.z g+s.sf.z g)(c:∀b,b<p.nb->decide ((s.on.r b).z g<bw s b g s.hs.n+az s b g s.ms.n)=false):ij p s g=false:=by
 rw[pu,h,ct λb a => ?_]
 .simp
 have:=of_decide_eq_false (c b a);exact decide_eq_false (by unfold ar;omega)
def sw(ls:Nat->Hd)(n:Nat):Bool := !aw n (λj=>jr (ls j))
theorem Sw(ls:Nat->Hd)(n:Nat):sw ls (n+1)=(sw ls n&&((ls n).b==(ls n).l)):=by
 unfold sw;rw[Dl];simp[jr]
theorem Sv{ls:Nat->Hd}{n:Nat}{b c:Bool}(h:sw ls n=b)(a:((ls n).b==(ls n).l)=c):sw ls (n+1)=(b&&c):=by rw[Sw,h,a]
theorem ze{k:Nat}{f:Nat->Bool}{b:Bool}(h:∀j,j<k->f j=b)(c:f k=b):∀j,j<k+1->f j=b:=λj d=>by
 by_cases a:j=k
 .rw[a];exact c
 exact h j (by omega)
theorem wL0{x:Hd}{kept:Int}(d:0<=x.b/\x.b<=200)(c:0<=x.n/\x.n<=200)(a:0<=kept/\kept<=14400):co 0 x kept = !(x.b+x.n+kept==0):=by
 unfold co;rw[if_pos rfl,Bool.eq_iff_iff];simp only[Bool.or_eq_true,Bool.not_eq_true',beq_eq_false_iff_ne,ne_eq];omega
theorem wL1{x:Hd}{kept:Int}:co 1 x kept = !(x.b+x.n+kept==x.l):=by
 unfold co;rw[if_neg (by decide),if_neg (by decide)]
theorem wL2{x:Hd}{kept:Int}:co 2 x kept=(!(x.b+x.n+kept==x.l) || !(kept==0)):=by
 unfold co;rw[if_neg (by decide),if_pos rfl,Bool.eq_iff_iff];simp only[Bool.or_eq_true,Bool.not_eq_true',beq_eq_false_iff_ne,ne_eq];omega
theorem af{W a:World}(h:∃p:Regrown,a=grow (redrawn W p.d) p.os):Below W.heap.size W a:=by
 obtain⟨p,rfl⟩:=h;exact Qxx _ _ _
theorem J1{A w:World}{B:Nat}{e:TypeId}{f:Nat->Value}(d:Blk w B e 4 f)(g:Below A.heap.size A w)(a:A.heap.size<=B)(x:Hd):
  ∃W,(((w.setCell ⟨B,0,none⟩ (.int .i64 x.o)).setCell ⟨B,1,none⟩ (.int .i64 x.l)).setCell ⟨B,2,none⟩ (.int .i64 x.b)).setCell ⟨B,3,none⟩ (.int .i64 x.n)=W/\Below A.heap.size A W /\
   Blk W B e 4 (λj=>(#[.int .i64 x.o,.int .i64 x.l,.int .i64 x.b,.int .i64 x.n]:Array Value).getD j default):=
 ⟨_,rfl,(((g.setCell (p:=⟨B,0,none⟩) a _).setCell (p:=⟨B,1,none⟩) a _).setCell (p:=⟨B,2,none⟩) a _).setCell (p:=⟨B,3,none⟩) a _,
  ((((d.set 0 _).set 1 _).set 2 _).set 3 _).congr (λj c=>by match j,c with|0,_=>rfl|1,_=>rfl|2,_=>rfl|3,_=>rfl)⟩
theorem Vj(p:Pl)(s:St)(w:World)(hp:p.At w)(hs:s.At w)(f:cv p s):
  Calls prog 51 #[p.val,s.val] w λe w'=>e = .returned (.bool (ja p s))/\Below w.heap.size w w':=by
 obtain⟨W0,hW,ee,X0⟩:=Ih w p s;have HC:=Gd hp hs ee X0;have HW:=hid hW;have leb:=hp.leb;have capb:=hp.capb;have les:=hp.les;have caps:=hp.caps;have fl:=hs.os.le;have dp:=hs.os.cap;unfold maxLen at capb caps dp;have os4:=f.os4;have fm:=f.hs72;have ms8:=f.ms8;have ns3:=f.sh.pl.ns3;have nb6:=f.sh.pl.nb6;have HF:=hid f;clear hW X0 hp hs f;unfold Pl.val St.val;go_enter func51,ntmps51;go_wp2_with fail;rw[HW.out]
 go_loopw [5] (λi t=>∃k:Nat,k<=p.ns/\i = .int .i64 k/\(∀j,j<k->ij p s j=false)/\Below W0.heap.size W0 t) (λi _=>p.ns-(intOf i).toNat)
 case atStart=>exact⟨0,Qxz _,rfl,λj hj=>absurd hj (Qzq _),Below.refl _ _⟩
 obtain⟨g,hg,rfl,aa,E⟩:=hrel;have HN:=hid aa;clear aa;obtain⟨X,an,G,D⟩:=HC.out wr E;obtain⟨⟨l1,d0,d1⟩,l2,c0,c1,c2,c3,c4,c5,c6⟩:=X;by_cases L:g<p.ns
 .have qg:(0:Int)<=(g:Int):=by omega
  have F:=HF.out;obtain⟨b1,o1,e1,g1,z1⟩:=G.si.ints g (by rw[F.sin];exact L);obtain⟨b2,o2,e2,g2,z2⟩:=G.so.ints g (by rw[F.son];exact L);obtain⟨b3,o3,e3,g3,z3⟩:=G.sf.ints g (by rw[F.sfn];exact L);have v1:=G.si.le;have v2:=G.so.le;have v3:=G.sf.le;have v4:=G.si.cap;have v5:=G.so.cap;have v6:=G.sf.cap;have u1:=F.sib g L;have u2:=F.sob g L;have u3:=F.sfb g L;unfold maxLen at v4 v5 v6;have de:=hid G.on;rw[e1,F.sin] at c4;rw[e2,F.son] at c5;rw[e3,F.sfn] at c6;rw[F.sin] at v1;rw[F.son] at v2;rw[F.sfn] at v3;have r0:=Qqq c0;have r4:=Qqq c4;have r5:=Qqq c5;have r6:=Qqq c6;have r7:=Qqq z1;have r8:=Qqq z2;have r9:=Qqq z3;have eq:Hid (¬cu (λi=>(s.on.r i).z g) s.on.n=s.si.z g-s.so.z g+s.sf.z g->ja p s=false):=λh=>Th L (ab0 h);have ec:Hid (∀b,b<p.nb->(s.on.r b).z g<bw s b g s.hs.n+az s b g s.ms.n->ja p s=false):=λb hb h=>Th L (Zu hb h);have el:Hid (cu (λi=>(s.on.r i).z g) s.on.n=s.si.z g-s.so.z g+s.sf.z g->(∀b,b<p.nb->decide ((s.on.r b).z g<bw s b g s.hs.n+az s b g s.ms.n)=false)->ij p s g=false):=λh x=>aci h x;have b4:Hid (∀t,s.on.At t->Calls prog 112 #[s.on.val,.int .i64 g] t λe w'=>e = .returned (.int .i64 (cu (λi=>(s.on.r i).z g) s.on.n))/\Below t.heap.size t w'):=λt h=>V4 p s.on g t h F.sh L;unfold Sh.val at b4;clear e1 e2 e3 G an c0 c1 c2 c3 c4 c5 c6 z1 z2 z3 d0 F
  generalize cu (λi=>(s.on.r i).z g) s.on.n=SM at *
  generalize s.si.z g=I1 at *
  generalize s.so.z g=I2 at *
  generalize s.sf.z g=I3 at *
  go_wp2_with fail;refine Qxq (by kernel_rfl) (by kernel_rfl) ?_
  repeat(go_big_quiet_step((go_at_call 112;exact Xxz (b4.out _ (de.out.below (Qxx _ _ _))))))
  refine Qqz ?_;intro _ aj;obtain⟨⟨dq,a8⟩,U⟩:=aj;subst U;have cp:=E.trans ((Qxx wr dq a8).mono E.size);clear r0 r4 r5 r6 r7 r8 r9 de b4 E D l1 l2 d1 g1 g2 g3 v1 v2 v3 v4 v5 v6
  generalize grow (redrawn wr dq) a8=wz at *
  obtain⟨X,an,G,D⟩:=HC.out wz cp;obtain⟨⟨l1,d0,d1⟩,l2,c0,c1,c2,c3,c4,c5,c6⟩:=X;by_cases bg:SM=I1-I2+I3;rotate_left
  .have he:(SM !=I1-I2+I3)=true:=by simp[bg]
   have y:Hid (ja p s=false):=eq.out bg;rw[he];clear bg he an G c0 c1 c2 c3 c4 c5 c6 d0 d1 l1 l2;go_wp2_with fail;go_ret;exact⟨by rw[y.out];rfl,D⟩
  have he:(SM !=I1-I2+I3)=false:=by simp[bg]
  have en:=hid bg;rw[he];clear bg he an G c0 c1 c2 c3 c4 c5 c6 D;go_wp2_with fail;clear d0 d1 l1 l2
  go_loopw [6] (λi t=>∃k:Nat,k<=p.nb/\i = .int .i64 k/\(∀b,b<k->decide ((s.on.r b).z g<bw s b g s.hs.n+az s b g s.ms.n)=false)/\Below W0.heap.size W0 t) (λi _=>p.nb-(intOf i).toNat)
  case atStart=>exact⟨0,Qxz _,rfl,λj hj=>absurd hj (Qzq _),cp⟩
  clear cp;obtain⟨b,hb,rfl,aa,E⟩:=hrel;have HM:=hid aa;clear aa;obtain⟨X,an,G,D⟩:=HC.out wr E;obtain⟨⟨l1,d0,d1⟩,l2,c0,c1,c2,c3,c4,c5,c6⟩:=X;by_cases dc:b<p.nb;rotate_left
  .have HA:Hid (ij p s g=false):=el.out en.out λb' df=>HM.out b' (by omega);clear G an c0 c1 c2 c3 c4 c5 c6 HM;go_wp2_with fail;go_roundw
   case rel=>exact⟨g+1,by omega,by go_num,ze HN.out HA.out,E⟩
   case measure=>simp[intOf];omega
  have qb:(0:Int)<=(b:Int):=by omega
  have F:=HF.out;have cy:b<s.on.n:=by rw[F.sh.n];exact dc
  obtain⟨bo,oo,be,fi,y0,bj⟩:=G.on.rows b cy;have rn:=F.sh.len b cy;obtain⟨br,fh,dg,fk,y1⟩:=bj.ints g (by rw[rn];exact L);have v1:=bj.le;have v2:=bj.cap;have v3:=G.on.le;have v4:=G.on.cap;unfold maxLen at v2 v4;have hx:=mr (s:=s) (b:=b) (g:=g) F.holdN;have hy:=jq (s:=s) (b:=b) (g:=g) F.moveN;have hz:=F.sh.num b cy g L;rw[dg,rn] at y0;rw[rn] at v1;rw[be] at c0;have cn:=qa2 G be;have r0:=Qqq c0;have r1:=Qqq c1;have r2:=Qqq c2;have r3:=Qqq c3;have r4:=Qqq c4;have r5:=Qqq c5;have r6:=Qqq c6;have r7:=Qqq y0;have r8:=Qqq y1;have dd:Hid (∀t,s.At t->Calls prog 113 #[.agg #[.slice (some ⟨bo,oo,none⟩) s.on.n s.on.c,.slice s.os.a s.os.n s.os.c,.slice s.hs.a s.hs.n s.hs.c,.slice s.ms.a s.ms.n s.ms.c,.slice s.si.a s.si.n s.si.c,.slice s.so.a s.so.n s.so.c,.slice s.sf.a s.sf.n s.sf.c],.int .i64 b,.int .i64 g] t λe w'=>e = .returned (.int .i64 (bw s b g s.hs.n+az s b g s.ms.n))/\Below t.heap.size t w'):=λt h=>by
   have:=Hn p s b g t h HF.out;rw[St.val,cn.out.2] at this;exact this
  have dh:Hid (((s.on.r b).z g<bw s b g s.hs.n+az s b g s.ms.n->ja p s=false)/\(¬(s.on.r b).z g<bw s b g s.hs.n+az s b g s.ms.n->∀b',b'<b+1->decide ((s.on.r b').z g<bw s b' g s.hs.n+az s b' g s.ms.n)=false)):=⟨ec.out b dc,λh=>ze HM.out (decide_eq_false h)⟩;clear be dg bj rn F G an c0 c1 c2 c3 c4 c5 c6 y0 y1 HM d1
  generalize bw s b g s.hs.n+az s b g s.ms.n=BD at *
  generalize (s.on.r b).z g=ON at *
  generalize (s.on.r b).c=RC at *
  by_cases hq:ON<BD
  .have y:Hid (ja p s=false):=dh.out.1 hq;go_wp2_with fail;refine Qxq (by kernel_rfl) (by kernel_rfl) ?_
   repeat(go_big_quiet_step((go_at_call 113;exact Xxz (dd.out _ (cn.out.1.below (Qxx _ _ _))))))
   refine Qqz ?_;intro _ aj;obtain⟨⟨dq,a8⟩,U⟩:=aj;subst U;go_wp2_with fail;go_ret;exact⟨by rw[y.out];rfl,D.trans ((Qxx _ _ _).mono D.size)⟩
  have y:=dh.out.2 hq;have ag:Hid _:=y;clear y;go_wp2_with fail;refine Qxq (by kernel_rfl) (by kernel_rfl) ?_
  repeat(go_big_quiet_step((go_at_call 113;exact Xxz (dd.out _ (cn.out.1.below (Qxx _ _ _))))))
  refine Qqz ?_;intro _ aj;obtain⟨⟨dq,a8⟩,U⟩:=aj;subst U;go_wp2_with fail;go_roundw
  case rel=>exact⟨b+1,by omega,by go_num,ag.out,E.trans ((Qxx _ _ _).mono E.size)⟩
  case measure=>simp[intOf];omega
 have eo:Hid (∀j,j<p.ns->ij p s j=false):=λj hj=>HN.out j (by omega);clear HN G an c0 c1 c2 c3 c4 c5 c6 D;go_wp2_with fail;clear d0 d1 l1 l2 L hg
 go_loopw [7] (λi t=>∃k:Nat,k<=s.os.n/\i = .int .i64 k/\(∀j,j<k->cf s j=false)/\Below W0.heap.size W0 t) (λi _=>s.os.n-(intOf i).toNat)
 case atStart=>exact⟨0,Qxz _,rfl,λj hj=>absurd hj (Qzq _),E⟩
 clear E;obtain⟨i,hi,rfl,aa,E⟩:=hrel;have HN:=hid aa;clear aa;obtain⟨X,an,G,D⟩:=HC.out wr E;obtain⟨⟨l1,d0,d1⟩,l2,c0,c1,c2,c3,c4,c5,c6⟩:=X;by_cases L:i<s.os.n;rotate_left
 .have y:Hid (ja p s=true):=abw eo.out λj hj=>HN.out j (by omega);clear G an c0 c2 c3 c4 c5 c6 d0 d1;go_wp2_with fail;go_ret;exact⟨by rw[y.out];rfl,D⟩
 obtain⟨b,o,be,hb,S,z1,hl⟩:=G.os.ods i L;have qi:(0:Int)<=(i:Int):=by omega
 have HL:Hid (∀t,Below W0.heap.size W0 t->t.cell? ⟨b,o+i*2,none⟩=some (.int .i64 (s.os.z i).k)/\t.cell? ⟨b,o+i*2+1,none⟩=some (.slice (s.os.z i).ls.a (s.os.z i).ls.n (s.os.z i).ls.c)/\(s.os.z i).ls.At t/\t.cell? ⟨w.heap.size+1,1,none⟩=some (.slice (some ⟨b,o,none⟩) s.os.n s.os.c)/\w.heap.size+1<t.heap.size/\b<t.heap.size/\Below w.heap.size w t/\s.hs.At t/\t.cell? ⟨w.heap.size+1,2,none⟩=some (.slice s.hs.a s.hs.n s.hs.c)):=λt h=>by
  obtain⟨X,-,dj,eg⟩:=HC.out t h;obtain⟨-,m2,-,f1,f2,-⟩:=X;obtain⟨b',o',b8,df,x0,x1,ea⟩:=dj.os.ods i L;rw[be] at b8 f1;simp only[Qkx,Qkz,and_true] at b8;obtain⟨rfl,rfl⟩:=b8;exact⟨x0,x1,ea,f1,m2,df,eg,dj.hs,f2⟩
 have fj:=hl.le;have dr:=hl.cap;have l3:=HF.out.lns i L;have kd:=HF.out.kind i L;unfold maxLen at dr;have HE:Hid (cf s i=(((s.os.z i).k==1&&sw (s.os.z i).ls.z (s.os.z i).ls.n)||aw (s.os.z i).ls.n (λj=>co (s.os.z i).k ((s.os.z i).ls.z j) (keptS s.hs.z i j s.hs.n)))):=G8;have di:Hid (∀j,j<(s.os.z i).ls.n->(0<=((s.os.z i).ls.z j).b/\((s.os.z i).ls.z j).b<=200)/\(0<=((s.os.z i).ls.z j).n/\((s.os.z i).ls.z j).n<=200)/\0<=keptS s.hs.z i j s.hs.n/\keptS s.hs.z i j s.hs.n<=14400):=λj hj=>by
  have a:=dz (HF.out.line i L j hj);have c:=ro (z:=s.hs.z) (i:Int) (j:Int) s.hs.n HF.out.holdN;omega
 clear be hl G an c0 c2 c3 c4 c5 c6 S z1 d0 d1 D hb
 generalize (s.os.z i).k=M at *
 generalize (s.os.z i).ls=H at *
 go_wp2_with fail;clear c1 l1 l2
 go_loopw [8,9] (λu i0 t=>∃k:Nat,k<=H.n/\i0 = .int .i64 k/\u = .bool (sw H.z k)/\Below W0.heap.size W0 t) (λ_ i0 _=>H.n-(intOf i0).toNat)
 case atStart=>exact⟨0,Qxz _,rfl,rfl,E⟩
 clear E;obtain⟨j,hj,rfl,rfl,E⟩:=hrel;obtain⟨S,z1,T,c1,l2,hb,D,-,-⟩:=HL.out wr E;by_cases au:j<H.n
 .obtain⟨b2,o2,a2,b9,y0,y1,y2,y3⟩:=T.hds j au;have qj:(0:Int)<=(j:Int):=by omega
  rw[a2] at z1;have r0:=Qqq c1;have r1:=Qqq z1;have r2:=Qqq y1;have r3:=Qqq y2;have bf:Hid (∀b c,sw H.z j=b->((H.z j).b==(H.z j).l)=c->sw H.z (j+1)=(b&&c)):=λ_ _ h1 x=>Sv h1 x;clear a2 T y0 y1 y2 y3
  generalize (H.z j).l=WN at *
  generalize (H.z j).b=GT at *
  cases h1:sw H.z j
  .have y:Hid (sw H.z (j+1)=false):=bf.out _ _ h1 rfl;clear bf h1;go_wp2_with fail;refine Qxq (by kernel_rfl) (by kernel_rfl) ?_
   repeat(go_big_quiet_step(fail))
   refine Qqz ?_;intro _ aj;obtain⟨⟨dq,a8⟩,U⟩:=aj;subst U;clear r0 r1 r2 r3;go_wp2_with fail;go_roundw
   case rel=>exact⟨j+1,by omega,by go_num,by rw[y.out],E.trans ((Qxx _ _ _).mono E.size)⟩
   case measure=>simp[intOf];omega
  cases x:(GT==WN)
  .have y:Hid (sw H.z (j+1)=false):=bf.out _ _ h1 x;clear bf h1;go_wp2_with fail;refine Qxq (by kernel_rfl) (by kernel_rfl) ?_
   repeat(go_big_quiet_step(fail))
   refine Qqz ?_;intro _ aj;obtain⟨⟨dq,a8⟩,U⟩:=aj;subst U;clear r0 r1 r2 r3;go_wp2_with fail;go_roundw
   case rel=>exact⟨j+1,by omega,by go_num,by rw[y.out],E.trans ((Qxx _ _ _).mono E.size)⟩
   case measure=>simp[intOf];omega
  have y:Hid (sw H.z (j+1)=true):=bf.out _ _ h1 x;clear bf h1;go_wp2_with fail;refine Qxq (by kernel_rfl) (by kernel_rfl) ?_
  repeat(go_big_quiet_step(fail))
  refine Qqz ?_;intro _ aj;obtain⟨⟨dq,a8⟩,U⟩:=aj;subst U;clear r0 r1 r2 r3;go_wp2_with fail;go_roundw
  case rel=>exact⟨j+1,by omega,by go_num,by rw[y.out],E.trans ((Qxx _ _ _).mono E.size)⟩
  case measure=>simp[intOf];omega
 have d9:j=H.n:=by omega
 subst d9;cases hN:sw H.z H.n
 .have bp:Hid (cf s i=aw H.n (λj=>co M (H.z j) (keptS s.hs.z i j s.hs.n))):=by show cf s i=_;rw[HE.out,hN,Bool.and_false,Bool.false_or]
  clear hN HE;go_wp2_with fail;clear S z1 T c1 l2 hb D
  go_loopw [10] (λi0 t=>∃k:Nat,k<=H.n/\i0 = .int .i64 k/\(∀j,j<k->co M (H.z j) (keptS s.hs.z i j s.hs.n)=false)/\Below W0.heap.size W0 t) (λi0 _=>H.n-(intOf i0).toNat)
  case atStart=>exact⟨0,Qxz _,rfl,λj hj=>absurd hj (Qzq _),E⟩
  clear E;obtain⟨j,hj,rfl,aa,E⟩:=hrel;have HM:=hid aa;clear aa;obtain⟨S,z1,T,c1,l2,hb,D,ak,c2⟩:=HL.out wr E;by_cases au:j<H.n;rotate_left
  .have HA:Hid (cf s i=false):=by show cf s i=false;rw[bp.out];exact ct λj' ep=>HM.out j' (by omega)
   clear S ak c2 D T;go_wp2_with fail;go_roundw
   case rel=>exact⟨i+1,by omega,by go_num,ze HN.out HA.out,E⟩
   case measure=>simp[intOf];omega
  obtain⟨b2,o2,a2,b9,y0,y1,y2,y3⟩:=T.hds j au;have qj:(0:Int)<=(j:Int):=by omega
  obtain⟨k1,k2,k3⟩:=di.out j au;have W:Hid (co M (H.z j) (keptS s.hs.z i j s.hs.n)=true->ja p s=false):=λh=>Ko L (by rw[bp.out];exact dt au h);have HU:Hid (co M (H.z j) (keptS s.hs.z i j s.hs.n)=false->∀j',j'<j+1->co M (H.z j') (keptS s.hs.z i j' s.hs.n)=false):=λh=>ze HM.out h;rw[a2] at z1;have cl:Hid (∀t,Below wr.heap.size wr t->Calls prog 114 #[.slice s.hs.a s.hs.n s.hs.c,.int .i64 i,.int .i64 j] t λe w'=>e = .returned (.int .i64 (keptS s.hs.z i j s.hs.n))/\w'=t):=λt h=>Le s.hs i j t (ak.below h) HF.out.hold;have r0:=Qqq c1;have r1:=Qqq z1;have r2:=Qqq y0;have r3:=Qqq y1;have r4:=Qqq y2;have r5:=Qqq y3;have r6:=Qqq c2;clear a2 T y0 y1 y2 y3 ak c2 S HM D
  generalize keptS s.hs.z i j s.hs.n=A at *
  generalize H.z j=m at *
  go_wp2_with fail;refine Fd (λw'=>∃p:Regrown,w'=grow (redrawn wr p.d) p.os) (List.range 13) [13,14] [(false,15),(false,16)] (Qqx (brf.drew)) ?_;rw[show List.range 13=[0,1,2,3,4,5,6,7,8,9,10,11,12] from rfl];simp only[dv,Qyq,Xqq,Qyx,Qyz,Xqz,Xqx]
  repeat(go_big_quiet_step(fail))
  refine Qqz ?_;refine⟨λj v t=>match j with|13=>v = .int .i64 A|14=>∃B,v = .pointer (some ⟨B,0,none⟩)/\wr.heap.size<=B/\Blk t B 59 4 (λ_ => .int .i64 0)|_=>True,Qjx ⟨?m13,Qjx ⟨?m14,Qjq _⟩⟩,Qjx ⟨?s13,Qjx ⟨?s14,Qjq _⟩⟩,?done⟩
  case m13=>intro v w w' _ h;exact h
  case m14=>intro v w w' E h;obtain⟨B,h1,x,h3⟩:=h;exact⟨B,h1,x,h3.below E⟩
  case s13 =>
   intro V t K hS hd hK;obtain⟨pp,rfl⟩:=hS;refine ay 13 rfl ?_;simp only[am,bu,Qvz,Qwq,Qvx,Act.put,Qvq,Qwx,Qwz] at hK ⊢;go_wp2_with fail;refine(cl.out _ (Qxx _ _ _)).mono ?_;rintro e w' ⟨rfl,rfl⟩;go_wp2_with fail;exact hK _ _ ⟨pp,rfl⟩ brf rfl
  case s14 =>
   intro V t K hS hd hK;have hX:=af hS;refine ay 14 rfl ?_;simp only[am,bu,Qvz,Qwq,Qvx,Act.put,Qvq,Qwx,Qwz] at hK ⊢;go_wp2_with fail;exact hK _ _ (Qqx (hX.alloc hX.size _)) (brf.alloc nlr _) ⟨t.heap.size,rfl,hX.size,(Blk.mk' (cur:=#[.int .i64 0,.int .i64 0,.int .i64 0,.int .i64 0]) rfl rfl).congr (λj hj=>by match j,hj with|0,_=>rfl|1,_=>rfl|2,_=>rfl|3,_=>rfl)⟩
  case done =>
   intro V t hS hD;have bn:V 13 = .int .i64 A:=hD 13 (by simp);have ap:∃B,V 14 = .pointer (some ⟨B,0,none⟩)/\wr.heap.size<=B/\Blk t B 59 4 (λ_ => .int .i64 0):=hD 14 (by simp);obtain⟨B4,ap,bs,Y⟩:=ap;have hX:=af hS;clear hS hD r0 r1 r2 r3 r4 r5 r6;have cs:=Y.lt;have f0:=Y.frozen 0;have f1:=Y.frozen 1;have f2:=Y.frozen 2;have f3:=Y.frozen 3;have e0:=Y.k 0;have e1:=Y.k 1;have e2:=Y.k 2;have e3:=Y.k 3;simp only[am,bu,Qvz,Qwq,Qvx,Act.put,Qvq,Qwx,Qwz,bn,ap];refine db 15 (by decide) ?_;simp only[Qyq,Xqq,Qyx,Qyz];go_wp2_with fail;obtain⟨W5,bq,aq,ae⟩:=J1 Y hX bs m;rw[bq];refine⟨Qqx aq,?_⟩;refine db 16 (by decide) ?_;simp only[Qyq,Xqq,Qyx,Qyz];go_wp2_with fail;refine⟨Qqx aq,?_⟩;refine NoPanic.normal ?_;have av:=E.trans (aq.mono E.size);have t0:W5.cell? ⟨B4,0,none⟩=some (.int .i64 m.o):=ae.cell (j:=0) (by simp);have t1:W5.cell? ⟨B4,1,none⟩=some (.int .i64 m.l):=ae.cell (j:=1) (by simp);have t2:W5.cell? ⟨B4,2,none⟩=some (.int .i64 m.b):=ae.cell (j:=2) (by simp);have t3:W5.cell? ⟨B4,3,none⟩=some (.int .i64 m.n):=ae.cell (j:=3) (by simp);have em:=ae.lt;clear aq bq ae hX Y f0 f1 f2 f3 e0 e1 e2 e3 bn ap cs bs z1 c1 l2 hb b9 E;obtain⟨S,z1,T,c1,l2,hb,D,ak,c2⟩:=HL.out W5 av;clear T ak c2 z1;have q:M=0\/M=1\/M=2:=by omega
   have P:Hid (∀b,M=0->(m.b+m.n+A==0)=b->co M m A = !b):=λb h x=>by rw[h,wL0 k1 k2 k3,x]
   have Q:Hid (∀b,M=1->(m.b+m.n+A==m.l)=b->co M m A = !b):=λb h x=>by rw[h,wL1,x]
   have J:Hid (∀b c,M=2->(m.b+m.n+A==m.l)=b->(A==0)=c->co M m A=(!b || !c)):=λb c h x h3=>by rw[h,wL2,x,h3]
   generalize co M m A=WL at *
   rcases q with q|q|q
   .cases x:(m.b+m.n+A==0)
    .have y:Hid (ja p s=false):=W.out (P.out _ q x);have n2:(m.b+m.n+A !=0)=true:=by rw[bne,x];rfl
     rw[q] at S;clear P Q J W HU q;go_wp2_with fail;go_ret;exact⟨by rw[y.out];rfl,D⟩
    have y:=HU.out (P.out _ q x);have n2:(m.b+m.n+A !=0)=false:=by rw[bne,x];rfl
    have ag:Hid _:=y;rw[q] at S;clear P Q J W HU q y;go_wp2_with fail;go_roundw
    case rel=>exact⟨j+1,by omega,by go_num,ag.out,av⟩
    case measure=>simp[intOf];omega
   .cases x:(m.b+m.n+A==m.l)
    .have y:Hid (ja p s=false):=W.out (Q.out _ q x);have n2:(m.b+m.n+A !=m.l)=true:=by rw[bne,x];rfl
     rw[q] at S;clear P Q J W HU q;go_wp2_with fail;go_ret;exact⟨by rw[y.out];rfl,D⟩
    have y:=HU.out (Q.out _ q x);have n2:(m.b+m.n+A !=m.l)=false:=by rw[bne,x];rfl
    have ag:Hid _:=y;rw[q] at S;clear P Q J W HU q y;go_wp2_with fail;go_roundw
    case rel=>exact⟨j+1,by omega,by go_num,ag.out,av⟩
    case measure=>simp[intOf];omega
   cases x:(m.b+m.n+A==m.l)
   .have y:Hid (ja p s=false):=W.out (J.out _ _ q x rfl);have n2:(m.b+m.n+A !=m.l)=true:=by rw[bne,x];rfl
    rw[q] at S;clear P Q J W HU q;go_wp2_with fail;go_ret;exact⟨by rw[y.out];rfl,D⟩
   cases h3:(A==0)
   .have y:Hid (ja p s=false):=W.out (J.out _ _ q x h3);have n2:(m.b+m.n+A !=m.l)=false:=by rw[bne,x];rfl
    have n3:(A !=0)=true:=by rw[bne,h3];rfl
    rw[q] at S;clear P Q J W HU q;go_wp2_with fail;go_ret;exact⟨by rw[y.out];rfl,D⟩
   have y:=HU.out (J.out _ _ q x h3);have n2:(m.b+m.n+A !=m.l)=false:=by rw[bne,x];rfl
   have n3:(A !=0)=false:=by rw[bne,h3];rfl
   have ag:Hid _:=y;rw[q] at S;clear P Q J W HU q y;go_wp2_with fail;go_roundw
   case rel=>exact⟨j+1,by omega,by go_num,ag.out,av⟩
   case measure=>simp[intOf];omega
 cases cm:(M==1);rotate_left
 .have y:Hid (ja p s=false):=Ko L (by rw[HE.out,hN,cm];rfl);clear HE;go_wp2_with fail;go_ret;exact⟨by rw[y.out];rfl,D⟩
 have bp:Hid (cf s i=aw H.n (λj=>co M (H.z j) (keptS s.hs.z i j s.hs.n))):=by show cf s i=_;rw[HE.out,cm,Bool.false_and,Bool.false_or]
 clear hN HE;go_wp2_with fail;clear cm;clear S z1 T c1 l2 hb D
 go_loopw [10] (λi0 t=>∃k:Nat,k<=H.n/\i0 = .int .i64 k/\(∀j,j<k->co M (H.z j) (keptS s.hs.z i j s.hs.n)=false)/\Below W0.heap.size W0 t) (λi0 _=>H.n-(intOf i0).toNat)
 case atStart=>exact⟨0,Qxz _,rfl,λj hj=>absurd hj (Qzq _),E⟩
 clear E;obtain⟨j,hj,rfl,aa,E⟩:=hrel;have HM:=hid aa;clear aa;obtain⟨S,z1,T,c1,l2,hb,D,ak,c2⟩:=HL.out wr E;by_cases au:j<H.n;rotate_left
 .have HA:Hid (cf s i=false):=by show cf s i=false;rw[bp.out];exact ct λj' ep=>HM.out j' (by omega)
  clear S ak c2 D T;go_wp2_with fail;go_roundw
  case rel=>exact⟨i+1,by omega,by go_num,ze HN.out HA.out,E⟩
  case measure=>simp[intOf];omega
 obtain⟨b2,o2,a2,b9,y0,y1,y2,y3⟩:=T.hds j au;have qj:(0:Int)<=(j:Int):=by omega
 obtain⟨k1,k2,k3⟩:=di.out j au;have W:Hid (co M (H.z j) (keptS s.hs.z i j s.hs.n)=true->ja p s=false):=λh=>Ko L (by rw[bp.out];exact dt au h);have HU:Hid (co M (H.z j) (keptS s.hs.z i j s.hs.n)=false->∀j',j'<j+1->co M (H.z j') (keptS s.hs.z i j' s.hs.n)=false):=λh=>ze HM.out h;rw[a2] at z1;have cl:Hid (∀t,Below wr.heap.size wr t->Calls prog 114 #[.slice s.hs.a s.hs.n s.hs.c,.int .i64 i,.int .i64 j] t λe w'=>e = .returned (.int .i64 (keptS s.hs.z i j s.hs.n))/\w'=t):=λt h=>Le s.hs i j t (ak.below h) HF.out.hold;have r0:=Qqq c1;have r1:=Qqq z1;have r2:=Qqq y0;have r3:=Qqq y1;have r4:=Qqq y2;have r5:=Qqq y3;have r6:=Qqq c2;clear a2 T y0 y1 y2 y3 ak c2 S HM D
 generalize keptS s.hs.z i j s.hs.n=A at *
 generalize H.z j=m at *
 go_wp2_with fail;refine Fd (λw'=>∃p:Regrown,w'=grow (redrawn wr p.d) p.os) (List.range 13) [13,14] [(false,15),(false,16)] (Qqx (brf.drew)) ?_;rw[show List.range 13=[0,1,2,3,4,5,6,7,8,9,10,11,12] from rfl];simp only[dv,Qyq,Xqq,Qyx,Qyz,Xqz,Xqx]
 repeat(go_big_quiet_step(fail))
 refine Qqz ?_;refine⟨λj v t=>match j with|13=>v = .int .i64 A|14=>∃B,v = .pointer (some ⟨B,0,none⟩)/\wr.heap.size<=B/\Blk t B 59 4 (λ_ => .int .i64 0)|_=>True,Qjx ⟨?m13,Qjx ⟨?m14,Qjq _⟩⟩,Qjx ⟨?s13,Qjx ⟨?s14,Qjq _⟩⟩,?done⟩
 case m13=>intro v w w' _ h;exact h
 case m14=>intro v w w' E h;obtain⟨B,h1,x,h3⟩:=h;exact⟨B,h1,x,h3.below E⟩
 case s13 =>
  intro V t K hS hd hK;obtain⟨pp,rfl⟩:=hS;refine ay 13 rfl ?_;simp only[am,bu,Qvz,Qwq,Qvx,Act.put,Qvq,Qwx,Qwz] at hK ⊢;go_wp2_with fail;refine(cl.out _ (Qxx _ _ _)).mono ?_;rintro e w' ⟨rfl,rfl⟩;go_wp2_with fail;exact hK _ _ ⟨pp,rfl⟩ brf rfl
 case s14 =>
  intro V t K hS hd hK;have hX:=af hS;refine ay 14 rfl ?_;simp only[am,bu,Qvz,Qwq,Qvx,Act.put,Qvq,Qwx,Qwz] at hK ⊢;go_wp2_with fail;exact hK _ _ (Qqx (hX.alloc hX.size _)) (brf.alloc nlr _) ⟨t.heap.size,rfl,hX.size,(Blk.mk' (cur:=#[.int .i64 0,.int .i64 0,.int .i64 0,.int .i64 0]) rfl rfl).congr (λj hj=>by match j,hj with|0,_=>rfl|1,_=>rfl|2,_=>rfl|3,_=>rfl)⟩
 case done =>
  intro V t hS hD;have bn:V 13 = .int .i64 A:=hD 13 (by simp);have ap:∃B,V 14 = .pointer (some ⟨B,0,none⟩)/\wr.heap.size<=B/\Blk t B 59 4 (λ_ => .int .i64 0):=hD 14 (by simp);obtain⟨B4,ap,bs,Y⟩:=ap;have hX:=af hS;clear hS hD r0 r1 r2 r3 r4 r5 r6;have cs:=Y.lt;have f0:=Y.frozen 0;have f1:=Y.frozen 1;have f2:=Y.frozen 2;have f3:=Y.frozen 3;have e0:=Y.k 0;have e1:=Y.k 1;have e2:=Y.k 2;have e3:=Y.k 3;simp only[am,bu,Qvz,Qwq,Qvx,Act.put,Qvq,Qwx,Qwz,bn,ap];refine db 15 (by decide) ?_;simp only[Qyq,Xqq,Qyx,Qyz];go_wp2_with fail;obtain⟨W5,bq,aq,ae⟩:=J1 Y hX bs m;rw[bq];refine⟨Qqx aq,?_⟩;refine db 16 (by decide) ?_;simp only[Qyq,Xqq,Qyx,Qyz];go_wp2_with fail;refine⟨Qqx aq,?_⟩;refine NoPanic.normal ?_;have av:=E.trans (aq.mono E.size);have t0:W5.cell? ⟨B4,0,none⟩=some (.int .i64 m.o):=ae.cell (j:=0) (by simp);have t1:W5.cell? ⟨B4,1,none⟩=some (.int .i64 m.l):=ae.cell (j:=1) (by simp);have t2:W5.cell? ⟨B4,2,none⟩=some (.int .i64 m.b):=ae.cell (j:=2) (by simp);have t3:W5.cell? ⟨B4,3,none⟩=some (.int .i64 m.n):=ae.cell (j:=3) (by simp);have em:=ae.lt;clear aq bq ae hX Y f0 f1 f2 f3 e0 e1 e2 e3 bn ap cs bs z1 c1 l2 hb b9 E;obtain⟨S,z1,T,c1,l2,hb,D,ak,c2⟩:=HL.out W5 av;clear T ak c2 z1;have q:M=0\/M=1\/M=2:=by omega
  have P:Hid (∀b,M=0->(m.b+m.n+A==0)=b->co M m A = !b):=λb h x=>by rw[h,wL0 k1 k2 k3,x]
  have Q:Hid (∀b,M=1->(m.b+m.n+A==m.l)=b->co M m A = !b):=λb h x=>by rw[h,wL1,x]
  have J:Hid (∀b c,M=2->(m.b+m.n+A==m.l)=b->(A==0)=c->co M m A=(!b || !c)):=λb c h x h3=>by rw[h,wL2,x,h3]
  generalize co M m A=WL at *
  rcases q with q|q|q
  .cases x:(m.b+m.n+A==0)
   .have y:Hid (ja p s=false):=W.out (P.out _ q x);have n2:(m.b+m.n+A !=0)=true:=by rw[bne,x];rfl
    rw[q] at S;clear P Q J W HU q;go_wp2_with fail;go_ret;exact⟨by rw[y.out];rfl,D⟩
   have y:=HU.out (P.out _ q x);have n2:(m.b+m.n+A !=0)=false:=by rw[bne,x];rfl
   have ag:Hid _:=y;rw[q] at S;clear P Q J W HU q y;go_wp2_with fail;go_roundw
   case rel=>exact⟨j+1,by omega,by go_num,ag.out,av⟩
   case measure=>simp[intOf];omega
  .cases x:(m.b+m.n+A==m.l)
   .have y:Hid (ja p s=false):=W.out (Q.out _ q x);have n2:(m.b+m.n+A !=m.l)=true:=by rw[bne,x];rfl
    rw[q] at S;clear P Q J W HU q;go_wp2_with fail;go_ret;exact⟨by rw[y.out];rfl,D⟩
   have y:=HU.out (Q.out _ q x);have n2:(m.b+m.n+A !=m.l)=false:=by rw[bne,x];rfl
   have ag:Hid _:=y;rw[q] at S;clear P Q J W HU q y;go_wp2_with fail;go_roundw
   case rel=>exact⟨j+1,by omega,by go_num,ag.out,av⟩
   case measure=>simp[intOf];omega
  cases x:(m.b+m.n+A==m.l)
  .have y:Hid (ja p s=false):=W.out (J.out _ _ q x rfl);have n2:(m.b+m.n+A !=m.l)=true:=by rw[bne,x];rfl
   rw[q] at S;clear P Q J W HU q;go_wp2_with fail;go_ret;exact⟨by rw[y.out];rfl,D⟩
  cases h3:(A==0)
  .have y:Hid (ja p s=false):=W.out (J.out _ _ q x h3);have n2:(m.b+m.n+A !=m.l)=false:=by rw[bne,x];rfl
   have n3:(A !=0)=true:=by rw[bne,h3];rfl
   rw[q] at S;clear P Q J W HU q;go_wp2_with fail;go_ret;exact⟨by rw[y.out];rfl,D⟩
  have y:=HU.out (J.out _ _ q x h3);have n2:(m.b+m.n+A !=m.l)=false:=by rw[bne,x];rfl
  have n3:(A !=0)=false:=by rw[bne,h3];rfl
  have ag:Hid _:=y;rw[q] at S;clear P Q J W HU q y;go_wp2_with fail;go_roundw
  case rel=>exact⟨j+1,by omega,by go_num,ag.out,av⟩
  case measure=>simp[intOf];omega
structure ae(s t:St):Prop where
 on:s.on.n=t.on.n/\∀i,i<s.on.n->(s.on.r i).n=(t.on.r i).n/\∀j,j<(s.on.r i).n->(s.on.r i).z j=(t.on.r i).z j
 os:s.os.n=t.os.n/\∀i,i<s.os.n->(s.os.z i).k=(t.os.z i).k/\(s.os.z i).ls.n=(t.os.z i).ls.n/\∀j,j<(s.os.z i).ls.n->(s.os.z i).ls.z j=(t.os.z i).ls.z j
 hs:s.hs.n=t.hs.n/\∀j,j<s.hs.n->s.hs.z j=t.hs.z j
 ms:s.ms.n=t.ms.n/\∀j,j<s.ms.n->s.ms.z j=t.ms.z j
 si:s.si.n=t.si.n/\∀j,j<s.si.n->s.si.z j=t.si.z j
 so:s.so.n=t.so.n/\∀j,j<s.so.n->s.so.z j=t.so.z j
 sf:s.sf.n=t.sf.n/\∀j,j<s.sf.n->s.sf.z j=t.sf.z j
def Boxed(w:World)(B:Nat)(s:St):Prop :=
 B<w.heap.size/\w.cell? ⟨B,0,none⟩=some (.slice s.on.a s.on.n s.on.c)/\w.cell? ⟨B,1,none⟩=some (.slice s.os.a s.os.n s.os.c)/\w.cell? ⟨B,2,none⟩=some (.slice s.hs.a s.hs.n s.hs.c) /\
  w.cell? ⟨B,3,none⟩=some (.slice s.ms.a s.ms.n s.ms.c)/\w.cell? ⟨B,4,none⟩=some (.slice s.si.a s.si.n s.si.c)/\w.cell? ⟨B,5,none⟩=some (.slice s.so.a s.so.n s.so.c)/\w.cell? ⟨B,6,none⟩=some (.slice s.sf.a s.sf.n s.sf.c)
theorem Boxed.of{w:World}{B:Nat}{e:TypeId}{s:St}(h:Blk w B e 7 (λj=>s.cells.getD j default)):Boxed w B s :=
 ⟨h.lt,h.k 0,h.k 1,h.k 2,h.k 3,h.k 4,h.k 5,h.k 6⟩
theorem Ig{A w:World}{B:Nat}{e:TypeId}{f:Nat->Value}(i:Blk w B e 2 f)(l:Below A.heap.size A w)(c:A.heap.size<=B)(k:Int)(v:Value):
  ∃W,(w.setCell ⟨B,0,none⟩ (.int .i64 k)).setCell ⟨B,1,none⟩ v=W/\Below A.heap.size A W/\Blk W B e 2 (λj=>(#[.int .i64 k,v]:Array Value).getD j default)/\∀g t n f',g≠B->Blk w g t n f'->Blk W g t n f' :=
 ⟨_,rfl,(l.setCell (p:=⟨B,0,none⟩) c _).setCell (p:=⟨B,1,none⟩) c _,((i.set 0 _).set 1 _).congr (λj d=>by match j,d with|0,_=>rfl|1,_=>rfl),
  λg t n f' b h=>(h.other (a:=⟨B,0,none⟩) b _).other (a:=⟨B,1,none⟩) b _⟩
theorem Es(s t:St)(w:World)(hs:s.At w)(ht:t.At w)(h:ae s t)(dt:s.os.n<=1000)(dp:s.ms.n<=1000)(bi:∀i,i<s.os.n->(s.os.z i).ls.n<=1000):
  Calls prog 13 #[s.val,t.val] w λe w'=>e = .returned (.bool true)/\Below w.heap.size w w':=by
 obtain⟨S,hW,ar,X0,Y0⟩:∃W,((w.alloc (.cells s.cells 31)).alloc (.cells t.cells 31))=W/\Below w.heap.size w W/\Blk W w.heap.size 31 7 (λj=>s.cells.getD j default)/\Blk W (w.heap.size+1) 31 7 (λj=>t.cells.getD j default):=
  ⟨_,rfl,js _ _ _,(Blk.mk' rfl rfl).alloc _,Blk.mk' (by simp) rfl⟩
 have HC:Hid (∀b,Below S.heap.size S b->Boxed b w.heap.size s/\Boxed b (w.heap.size+1) t/\s.At b/\t.At b/\Below w.heap.size w b):=λb h=>⟨Boxed.of (X0.below h),Boxed.of (Y0.below h),(hs.below ar).below h,(ht.below ar).below h,ar.trans (h.mono ar.size)⟩;have HW:Hid ((w.alloc (.cells #[.slice s.on.a s.on.n s.on.c,.slice s.os.a s.os.n s.os.c,.slice s.hs.a s.hs.n s.hs.c,.slice s.ms.a s.ms.n s.ms.c,.slice s.si.a s.si.n s.si.c,.slice s.so.a s.so.n s.so.c,.slice s.sf.a s.sf.n s.sf.c] 31)).alloc (.cells #[.slice t.on.a t.on.n t.on.c,.slice t.os.a t.os.n t.os.c,.slice t.hs.a t.hs.n t.hs.c,.slice t.ms.a t.ms.n t.ms.c,.slice t.si.a t.si.n t.si.c,.slice t.so.a t.so.n t.so.c,.slice t.sf.a t.sf.n t.sf.c] 31)=S):=hW;have y:=hid h;have ds:=hs.os.le;have bw:=hs.os.cap;have du:=hs.ms.le;have b5:=hs.ms.cap;have dd:=ht.os.le;have be:=ht.os.cap;have df:=ht.ms.le;have bc:=ht.ms.cap;unfold maxLen at bw b5 be bc;have n1:((s.os.n:Int) !=(t.os.n:Int))=false:=by rw[h.os.1];simp
 have n2:((s.ms.n:Int) !=(t.ms.n:Int))=false:=by rw[h.ms.1];simp
 have cw:=hid bi;clear hW X0 Y0 hs ht h bi;unfold St.val;go_enter func13,ntmps13;go_wp2_with fail;rw[HW.out];obtain⟨X,Y,l,f,o⟩:=HC.out S brf;refine(P8 s.on t.on S l.on f.on y.out.on.1 y.out.on.2).mono ?_;rintro e w1 ⟨rfl,m⟩;clear X Y l f o HW;obtain⟨⟨l1,E,c1,c2,c3,c4,c5,c6⟩,⟨U,H,u,J,L,A,D,M⟩,l,f,o⟩:=HC.out w1 m;go_wp2_with fail;refine(Pm s.hs t.hs w1 l.hs f.hs y.out.hs.1 y.out.hs.2).mono ?_;rintro e w2 ⟨rfl,q⟩;have m:=m.trans (q.mono m.size);clear l1 E c1 c2 c3 c4 c5 c6 U H u J L A D M l f o q;obtain⟨⟨l1,E,c1,c2,c3,c4,c5,c6⟩,⟨U,H,u,J,L,A,D,M⟩,l,f,o⟩:=HC.out w2 m;go_wp2_with fail;refine(zt s.si t.si w2 l.si f.si y.out.si.1 y.out.si.2).mono ?_;rintro e w3 ⟨rfl,q⟩;have m:=m.trans (q.mono m.size);clear l1 E c1 c2 c3 c4 c5 c6 U H u J L A D M l f o q;obtain⟨⟨l1,E,c1,c2,c3,c4,c5,c6⟩,⟨U,H,u,J,L,A,D,M⟩,l,f,o⟩:=HC.out w3 m;go_wp2_with fail;refine(zt s.so t.so w3 l.so f.so y.out.so.1 y.out.so.2).mono ?_;rintro e w4 ⟨rfl,q⟩;have m:=m.trans (q.mono m.size);clear l1 E c1 c2 c3 c4 c5 c6 U H u J L A D M l f o q;obtain⟨⟨l1,E,c1,c2,c3,c4,c5,c6⟩,⟨U,H,u,J,L,A,D,M⟩,l,f,o⟩:=HC.out w4 m;go_wp2_with fail;refine(zt s.sf t.sf w4 l.sf f.sf y.out.sf.1 y.out.sf.2).mono ?_;rintro e w5 ⟨rfl,q⟩;have m:=m.trans (q.mono m.size);clear l1 E c1 c2 c3 c4 c5 c6 U H u J L A D M l f o q;go_wp2_with fail
 go_loopw [5] (λi b=>∃k:Nat,k<=s.os.n/\i = .int .i64 k/\Below S.heap.size S b) (λi _=>s.os.n-(intOf i).toNat)
 case atStart=>exact⟨0,Qxz _,rfl,m⟩
 clear m;obtain⟨i,hi,rfl,m⟩:=hrel;obtain⟨⟨l1,E,c1,c2,c3,c4,c5,c6⟩,⟨U,H,u,J,L,A,D,M⟩,l,f,o⟩:=HC.out wr m;by_cases aj:i<s.os.n;rotate_left
 .go_wp2_with fail;clear l1 E c1 c2 c3 c4 c5 c6 U H u J L A D M l f o hi aj
  go_loopw [9] (λi0 b=>∃k:Nat,k<=s.ms.n/\i0 = .int .i64 k/\Below S.heap.size S b) (λi0 _=>s.ms.n-(intOf i0).toNat)
  case atStart=>exact⟨0,Qxz _,rfl,m⟩
  clear m;obtain⟨j,hj,rfl,m⟩:=hrel;obtain⟨⟨l1,E,c1,c2,c3,c4,c5,c6⟩,⟨U,H,u,J,L,A,D,M⟩,l,f,o⟩:=HC.out wr m;by_cases T:j<s.ms.n
  .have ap:j<t.ms.n:=by rw[<-y.out.ms.1];exact T
   have qj:(0:Int)<=(j:Int):=by omega
   obtain⟨b3,o3,ah,cl,y0,y1,y2,y3⟩:=l.ms.hds j T;obtain⟨b4,o4,ag,cj,x0,x1,x2,x3⟩:=f.ms.hds j ap;rw[<-y.out.ms.2 j T] at x0 x1 x2 x3;rw[ah] at c3;rw[ag] at L
   generalize s.ms.z j=Z at *
   clear ah ag l f E c1 c2 c4 c5 c6 H u J A D M;go_wp2_with fail
   go_quiet (fail)
   go_wp2_with fail;go_roundw
   case rel=>exact⟨j+1,by omega,by go_num,below_drewN m _⟩
   case measure=>simp[intOf];omega
  clear l f;go_wp2_with fail;go_ret;exact⟨rfl,o⟩
 have bo:i<t.os.n:=by rw[<-y.out.os.1];exact aj
 have qi:(0:Int)<=(i:Int):=by omega
 obtain⟨b1,o1,bg,dr,y0,y1,hl⟩:=l.os.ods i aj;obtain⟨b2,o2,bm,dw,x0,x1,hm⟩:=f.os.ods i bo;obtain⟨e1,e2,e3⟩:=y.out.os.2 i aj;have dn:=cw.out i aj;rw[bg] at c1;rw[bm] at u;have r0:=Qqq c1;have r1:=Qqq u;have r2:=Qqq y0;have r3:=Qqq y1;rw[<-e1] at x0;have r4:=Qqq x0;have r5:=Qqq x1;have a0:=qa2 hl hm;have HE:=qa2 e2 e3;clear bg bm hl hm e1 e2 e3 E c2 c3 c4 c5 c6 H J L A D M l f y0 y1 x0 x1 u
 generalize (s.os.z i).k=KD at *
 generalize (s.os.z i).ls=F at *
 generalize (t.os.z i).ls=LT at *
 go_wp2_with fail;refine M0 (λw'=>∃p:Regrown,w'=grow (redrawn wr p.d) p.os) (List.range 10) [10,11] [(false,12),(false,13)] (by kernel_rfl) (by kernel_rfl) (by kernel_rfl) (by kernel_rfl) (by kernel_rfl) (by kernel_rfl) (by kernel_rfl) (by kernel_rfl) (Qqx (brf.drew)) ?_;rw[show List.range 10=[0,1,2,3,4,5,6,7,8,9] from rfl];simp only[dv,Qyq,Xqq,Qyx,Qyz,Xqz,Xqx]
 repeat(go_big_quiet_step(fail))
 refine Qqz ?_;refine⟨λj v g b=>∃B,g=[B]/\v = .pointer (some ⟨B,0,none⟩)/\wr.heap.size<=B/\Blk b B 57 2 (λj=>(#[.int .i64 0,.slice .none 0 0]:Array Value).getD j default),Qjx ⟨?zm,Qjx ⟨?zm2,Qjq _⟩⟩,Qjx ⟨?zl,Qjx ⟨?zl2,Qjq _⟩⟩,Qjx ⟨?zs10,Qjx ⟨?zs11,Qjq _⟩⟩,?zdone⟩
 case zm|zm2=>intro v g w w' m h;obtain⟨B,h0,h1,h2,h3⟩:=h;exact⟨B,h0,h1,h2,h3.below m⟩
 case zl|zl2=>intro v g w h;obtain⟨B,rfl,h1,h2,h3⟩:=h;intro x hx;rw[List.mem_singleton] at hx;subst hx;exact h3.lt
 case zs10 =>
  intro V G b K hS hd hK;have hX:=af hS;refine ay 10 rfl ?_;simp only[am,bu,Qvz,Qwq,Qvx,Act.put,Qvq,Qwx,Qwz] at hK ⊢;go_wp2_with fail;exact hK _ [b.heap.size] _ (Qqx (hX.alloc hX.size _)) (brf.alloc nlr _) (λx hx=>by rw[List.mem_singleton] at hx;omega) ⟨b.heap.size,rfl,rfl,hX.size,Blk.mk' rfl rfl⟩
 case zs11 =>
  intro V G b K hS hd hK;have hX:=af hS;refine ay 11 rfl ?_;simp only[am,bu,Qvz,Qwq,Qvx,Act.put,Qvq,Qwx,Qwz] at hK ⊢;go_wp2_with fail;exact hK _ [b.heap.size] _ (Qqx (hX.alloc hX.size _)) (brf.alloc nlr _) (λx hx=>by rw[List.mem_singleton] at hx;omega) ⟨b.heap.size,rfl,rfl,hX.size,Blk.mk' rfl rfl⟩
 case zdone =>
  intro V G b hS hD hA;obtain⟨B6,g6,h6,m6,k6⟩:=hD 10 (by simp);obtain⟨B7,g7,h7,m7,k7⟩:=hD 11 (by simp);have bh:B6≠B7:=λe=>hA 10 (by simp) 11 (by simp) (by decide) B6 (by rw[g6];simp) (by rw[g7,e];simp);have hX:=af hS;clear hS hD hA g6 g7 r0 r1 r2 r3 r4 r5;have f0:=k6.frozen 0;have f1:=k6.frozen 1;have e0:=k6.k 0;have e1:=k6.k 1;have a4:=k6.lt;simp only[am,bu,Qvz,Qwq,Qvx,Act.put,Qvq,Qwx,Qwz,h6,h7];refine db 12 (by decide) ?_;simp only[Qyq,Xqq,Qyx,Qyz];go_wp2_with fail;obtain⟨W5,bl,a2,bk,P⟩:=Ig k6 hX m6 KD (.slice F.a F.n F.c);have k7:=P _ _ _ _ bh.symm k7;rw[bl];refine⟨Qqx a2,?_⟩;clear bl hX k6 P f0 f1 e0 e1 a4 h6 h7;have f0:=k7.frozen 0;have f1:=k7.frozen 1;have e0:=k7.k 0;have e1:=k7.k 1;have a4:=k7.lt;refine db 13 (by decide) ?_;simp only[Qyq,Xqq,Qyx,Qyz];go_wp2_with fail;obtain⟨W6,bn,ai,au,P⟩:=Ig k7 a2 m7 KD (.slice LT.a LT.n LT.c);have aq:=P _ _ _ _ bh bk;rw[bn];refine⟨Qqx ai,?_⟩;refine NoPanic.normal ?_;have bj:=m.trans (ai.mono m.size);have a3:=qa2 (a0.out.1.below ai) (a0.out.2.below ai);clear bn a2 ai k7 P f0 f1 e0 e1 a4 bk a0 m m6 m7;have HD:Hid (∀b,Below W6.heap.size W6 b->(b.cell? ⟨B6,0,none⟩=some (.int .i64 KD)/\b.cell? ⟨B6,1,none⟩=some (.slice F.a F.n F.c)/\B6<b.heap.size)/\(b.cell? ⟨B7,0,none⟩=some (.int .i64 KD)/\b.cell? ⟨B7,1,none⟩=some (.slice LT.a LT.n LT.c)/\B7<b.heap.size)/\F.At b/\LT.At b/\Below S.heap.size S b):=
   λb h=>⟨⟨(aq.below h).k 0,(aq.below h).k 1,(aq.below h).lt⟩,⟨(au.below h).k 0,(au.below h).k 1,(au.below h).lt⟩,a3.out.1.below h,a3.out.2.below h,bj.trans (h.mono bj.size)⟩
  clear aq au a3;obtain⟨⟨p0,p1,p2⟩,⟨q0,q1,q2⟩,Q,r,a1⟩:=HD.out W6 brf;have dq:=Q.le;have bx:=Q.cap;have di:=r.le;have bd:=r.cap;unfold maxLen at bx bd;have n3:((F.n:Int) !=(LT.n:Int))=false:=by rw[HE.out.1];simp
  clear Q r a1;go_wp2_with fail;clear p0 p1 p2 q0 q1 q2
  go_loopw [8] (λi0 b=>∃k:Nat,k<=F.n/\i0 = .int .i64 k/\Below W6.heap.size W6 b) (λi0 _=>F.n-(intOf i0).toNat)
  case atStart=>exact⟨0,Qxz _,rfl,Below.refl _ _⟩
  obtain⟨j,hj,rfl,m⟩:=hrel;obtain⟨⟨p0,p1,p2⟩,⟨q0,q1,q2⟩,Q,r,a1⟩:=HD.out wr m;by_cases T:j<F.n
  .have ap:j<LT.n:=by rw[<-HE.out.1];exact T
   have qj:(0:Int)<=(j:Int):=by omega
   obtain⟨b3,o3,ah,cl,y0,y1,y2,y3⟩:=Q.hds j T;obtain⟨b4,o4,ag,cj,x0,x1,x2,x3⟩:=r.hds j ap;rw[<-HE.out.2 j T] at x0 x1 x2 x3;rw[ah] at p1;rw[ag] at q1
   generalize F.z j=Z at *
   clear ah ag Q r p0 q0;go_wp2_with fail
   go_quiet (fail)
   go_wp2_with fail;go_roundw
   case rel=>exact⟨j+1,by omega,by go_num,below_drewN m _⟩
   case measure=>simp[intOf];omega
  clear Q r;go_wp2_with fail;go_roundw
  case rel=>exact⟨i+1,by omega,by go_num,a1⟩
  case measure=>simp[intOf];omega
theorem Ro{p:Pl}{s:St}(h:¬ev p s.on=0):ag p s=ev p s.on:=by unfold ag;rw[if_neg h]
theorem Sz{p:Pl}{s:St}(h:ev p s.on=0)(a:fs s=true):ag p s=2:=by unfold ag;rw[if_pos h,if_pos a]
theorem Bi{p:Pl}{s:St}(h:ev p s.on=0)(b:fs s=false)(a:jf p s=true\/gj p s=true\/j8 p s=true\/fj p s=true):ag p s=1:=by
 unfold ag;rw[if_pos h,b,if_neg (by decide),if_pos (by rcases a with a|a|a|a<;>simp[a])]
theorem Af{p:Pl}{s:St}(h:ev p s.on=0)(d:fs s=false)(a:jf p s=false)(b:gj p s=false)(c:j8 p s=false)(e:fj p s=false):ag p s=if kw p s||je s then 7 else 0:=by
 unfold ag;rw[if_pos h,d,if_neg (by decide),a,b,c,e,if_neg (by decide)]
theorem lm(p:Pl)(s:St)(w:World)(S:p.At w)(hs:s.At w):
  Calls prog 16 #[p.val,s.val] w λe T=>e = .returned (.int .i64 (ag p s))/\Below w.heap.size w T:=by
 obtain⟨E,J,L,M⟩:=Ih w p s;have n:=Gd S hs L M;have V:=hid J;clear J M;unfold Pl.val St.val;go_enter func16,ntmps16;go_wp2_with fail;rw[V.out];have a:Below E.heap.size E E:=Below.refl _ _;obtain⟨X,f,c,b⟩:=n.out E a;refine(xt p s.on E f c.on).mono ?_;rintro e w1 ⟨rfl,d⟩;have a:=a.trans (d.mono a.size);clear d X f c b;obtain⟨X,f,c,b⟩:=n.out w1 a;by_cases F:ev p s.on=0;rotate_left
 .have HE:Hid (ag p s=ev p s.on):=Ro F;go_wp2_with fail;go_ret;exact⟨by rw[HE.out];rfl,b⟩
 have o:=hid F;rw[F];clear F;obtain⟨⟨k,l,j⟩,h,i,c1,c2,c3,c4,c5,c6⟩:=X;go_wp2_with fail;refine(S0 s _ c).mono ?_;rintro e P ⟨rfl,d⟩;have g:=a.trans (d.mono a.size);clear k l j h i c1 c2 c3 c4 c5 c6 f c b a d;have a:=g;clear g;obtain⟨X,f,c,b⟩:=n.out P a;cases v:fs s;rotate_left
 .have m:=hid v;clear v;go_wp2_with fail;go_ret;exact⟨by rw[Sz o.out m.out];rfl,b⟩
 have m:=hid v;clear v;obtain⟨⟨k,l,j⟩,h,i,c1,c2,c3,c4,c5,c6⟩:=X;go_wp2_with fail;refine(Pr p s _ f c).mono ?_;rintro e U ⟨rfl,d⟩;have g:=a.trans (d.mono a.size);clear k l j h i c1 c2 c3 c4 c5 c6 f c b a d;have a:=g;clear g;obtain⟨X,f,c,b⟩:=n.out U a;cases r:jf p s;rotate_left
 .have A:=hid r;clear r;go_wp2_with fail;go_ret;exact⟨by rw[Bi o.out m.out (.inl A.out)];rfl,b⟩
 have A:=hid r;clear r;obtain⟨⟨k,l,j⟩,h,i,c1,c2,c3,c4,c5,c6⟩:=X;go_wp2_with fail;refine(Qf p s _ f c).mono ?_;rintro e W ⟨rfl,d⟩;have g:=a.trans (d.mono a.size);clear k l j h i c1 c2 c3 c4 c5 c6 f c b a d;have a:=g;clear g;obtain⟨X,f,c,b⟩:=n.out W a;cases x:gj p s;rotate_left
 .have D:=hid x;clear x;go_wp2_with fail;go_ret;exact⟨by rw[Bi o.out m.out (.inr (.inl D.out))];rfl,b⟩
 have D:=hid x;clear x;obtain⟨⟨k,l,j⟩,h,i,c1,c2,c3,c4,c5,c6⟩:=X;go_wp2_with fail;refine(Qg p s _ f c).mono ?_;rintro e w5 ⟨rfl,d⟩;have g:=a.trans (d.mono a.size);clear k l j h i c1 c2 c3 c4 c5 c6 f c b a d;have a:=g;clear g;obtain⟨X,f,c,b⟩:=n.out w5 a;cases t:j8 p s;rotate_left
 .have B:=hid t;clear t;go_wp2_with fail;go_ret;exact⟨by rw[Bi o.out m.out (.inr (.inr (.inl B.out)))];rfl,b⟩
 have B:=hid t;clear t;obtain⟨⟨k,l,j⟩,h,i,c1,c2,c3,c4,c5,c6⟩:=X;go_wp2_with fail;refine(R8 p s _ f c).mono ?_;rintro e Q ⟨rfl,d⟩;have g:=a.trans (d.mono a.size);clear k l j h i c1 c2 c3 c4 c5 c6 f c b a d;have a:=g;clear g;obtain⟨X,f,c,b⟩:=n.out Q a;cases y:fj p s;rotate_left
 .have z:=hid y;clear y;go_wp2_with fail;go_ret;exact⟨by rw[Bi o.out m.out (.inr (.inr (.inr z.out)))];rfl,b⟩
 have z:=hid y;clear y;have K:cv p s:=formed o.out m.out A.out D.out B.out z.out;obtain⟨⟨k,l,j⟩,h,i,c1,c2,c3,c4,c5,c6⟩:=X;go_wp2_with fail;refine(N5 p s _ f c K).mono ?_;rintro e w7 ⟨rfl,d⟩;have g:=a.trans (d.mono a.size);clear k l j h i c1 c2 c3 c4 c5 c6 f c b a d;have a:=g;clear g;obtain⟨X,f,c,b⟩:=n.out w7 a;cases q:kw p s;rotate_left
 .have H:=hid q;clear q;go_wp2_with fail;go_ret;exact⟨by rw[Af o.out m.out A.out D.out B.out z.out,H.out];rfl,b⟩
 have H:=hid q;clear q;obtain⟨⟨k,l,j⟩,h,i,c1,c2,c3,c4,c5,c6⟩:=X;go_wp2_with fail;refine(M1 p s _ c K).mono ?_;rintro e Y ⟨rfl,d⟩;have g:=a.trans (d.mono a.size);clear k l j h i c1 c2 c3 c4 c5 c6 f c b a d;have a:=g;clear g;obtain⟨X,f,c,b⟩:=n.out Y a;cases u:je s
 .have G:=hid u;clear u;go_wp2_with fail;go_ret;exact⟨by rw[Af o.out m.out A.out D.out B.out z.out,H.out,G.out];rfl,b⟩
 have G:=hid u;clear u;go_wp2_with fail;go_ret;exact⟨by rw[Af o.out m.out A.out D.out B.out z.out,G.out,Bool.or_true];rfl,b⟩
def la(p:Pl)(s:St)(bin good:Int):Int:=if ag p s=0 then(if inB bin 0 ((p.nb:Int)-1)&&inB good 0 ((p.ns:Int)-1) then 0 else 3) else ag p s
def rj(p:Pl)(s:St)(bin good:Int):Int:=if la p s bin good=0 then ar s bin.toNat good.toNat else 0
def jj(p:Pl)(s:St)(b:Int):Nat->Int
 | 0=>0
 | k+1=>jj p s b k+(if (s.ms.z k).b=b then(s.ms.z k).n*p.zs (s.ms.z k).o.toNat else 0)
def fw(p:Pl)(s:St)(b:Nat):Int:=(p.zb b).room-ey (s.on.r b).z p.zs p.ns-jj p s b s.ms.n
def sp(p:Pl)(s:St)(bin:Int):Int:=if ag p s=0 then ui p s.on bin else ag p s
def z5(p:Pl)(s:St)(bin:Int):Int:=if sp p s bin=0 then fw p s bin.toNat else 0
theorem Mw{p:Pl}{s:St}{b:Int}{k:Nat}(h:(s.ms.z k).b=b):jj p s b (k+1)=jj p s b k+(s.ms.z k).n*p.zs (s.ms.z k).o.toNat:=by simp only[jj];rw[if_pos h]
theorem J6{p:Pl}{s:St}{b:Int}{k:Nat}(h:¬(s.ms.z k).b=b):jj p s b (k+1)=jj p s b k:=by simp only[jj];rw[if_neg h,Int.add_zero]
theorem D1{p:Pl}{s:St}(f:cv p s)(b:Int):∀k,k<=s.ms.n->0<=jj p s b k/\jj p s b k<=1800*k
 | 0,_=>by simp[jj]
 | k+1,hk=>by
  have d:=D1 f b k (by omega);have c:=qn (f.move k (by omega));have:=Da (a:=(s.ms.z k).n) (b:=p.zs (s.ms.z k).o.toNat) ⟨by omega,c.2.2.2.2.2⟩ (f.sh.pl.sizes _ (by omega));simp only[jj]
  split<;>omega
theorem G9(p:Pl)(s:St)(bin good:Int)(w:World)(h:p.At w)(hs:s.At w):
  Calls prog 105 #[p.val,s.val,.int .i64 bin,.int .i64 good] w λe D=>e = .returned (.tuple #[.int .i64 (rj p s bin good),.int .i64 (la p s bin good)])/\Below w.heap.size w D:=by
 obtain⟨v,q,t,x⟩:=Ih w p s;have m:=Gd h hs t x;have z:=hid q;have G:p.nb<=maxLen:=Qzx h.leb h.capb;have F:p.ns<=maxLen:=Qzx h.les h.caps;clear q x;unfold Pl.val St.val;go_enter func105,ntmps105;go_wp2_with fail;rw[z.out];obtain⟨X,i,d,a⟩:=m.out v brf;refine(lm p s v i d).mono ?_;rintro e o ⟨rfl,B⟩;clear X i d a;obtain⟨X,i,d,a⟩:=m.out o B;obtain⟨⟨M,P,L⟩,J,K,c1,c2,c3,c4,c5,c6⟩:=X;by_cases f:ag p s=0;rotate_left
 .have c:Hid (la p s bin good=ag p s/\rj p s bin good=0):=by
   have e:la p s bin good=ag p s:=by unfold la;rw[if_neg f]
   exact⟨e,by unfold rj;rw[e,if_neg f]⟩
  go_wp2_with fail
  go_ret2
  exact⟨by rw[c.out.1,c.out.2];rfl,a⟩
 have A:Hid (au p s):=ed f;have l:=hid f;rw[f];clear f;cases k:inB bin 0 ((p.nb:Int)-1)
 .have c:Hid (la p s bin good=3/\rj p s bin good=0):=by
   have e:la p s bin good=3:=by unfold la;rw[if_pos l.out,k];rfl
   exact⟨e,by unfold rj;rw[e];rfl⟩
  go_wp2_with(go_at_call 71;refine ah (dk _ _ _ (by assumption)) ?_)
  go_ret2
  exact⟨by rw[c.out.1,c.out.2];rfl,a⟩
 cases j:inB good 0 ((p.ns:Int)-1)
 .have c:Hid (la p s bin good=3/\rj p s bin good=0):=by
   have e:la p s bin good=3:=by unfold la;rw[if_pos l.out,j,Bool.and_false];rfl
   exact⟨e,by unfold rj;rw[e];rfl⟩
  go_wp2_with(go_at_call 71;refine ah (dk _ _ _ (by assumption)) ?_)
  go_ret2
  exact⟨by rw[c.out.1,c.out.2];rfl,a⟩
 have c:Hid (la p s bin good=0/\rj p s bin good=ar s bin.toNat good.toNat):=by
  have e:la p s bin good=0:=by unfold la;rw[if_pos l.out,k,j];rfl
  exact⟨e,by unfold rj;rw[e];rfl⟩
 obtain⟨b,E⟩:=Qzz (aq k).1;obtain⟨g,y⟩:=Qzz (aq j).1;have r:b<p.nb:=by have:=(aq k).2;omega
 have n:g<p.ns:=by have:=(aq j).2;omega
 subst E y;go_wp2_with(go_at_call 71;refine ah (dk _ _ _ (by assumption)) ?_);refine(N7 p s b g o d A.out.fm r n).mono ?_;rintro e H ⟨rfl,u⟩;go_wp2_with fail
 go_ret2
 exact⟨by rw[c.out.1,c.out.2];rfl,a.trans (u.mono a.size)⟩
theorem P4(p:Pl)(s:St)(bin:Int)(w:World)(hp:p.At w)(hs:s.At w):
  Calls prog 88 #[p.val,s.val,.int .i64 bin] w λe w'=>e = .returned (.tuple #[.int .i64 (z5 p s bin),.int .i64 (sp p s bin)])/\Below w.heap.size w w':=by
 obtain⟨F,hW,M,X0⟩:=Ih w p s;have P:=Gd hp hs M X0;have HW:=hid hW;clear hW X0;unfold Pl.val St.val;go_enter func88,ntmps88;go_wp2_with fail;rw[HW.out];obtain⟨X,c,f,m⟩:=P.out F brf;refine(lm p s F c f).mono ?_;rintro e w1 ⟨rfl,y⟩;clear X c f m;obtain⟨X,c,f,m⟩:=P.out w1 y;obtain⟨⟨L,E,A⟩,S,c0,c1,c2,c3,c4,c5,c6⟩:=X;by_cases D:ag p s=0;rotate_left
 .have x:Hid (sp p s bin=ag p s/\z5 p s bin=0):=by
   have e:sp p s bin=ag p s:=by unfold sp;rw[if_neg D]
   exact⟨e,by unfold z5;rw[e,if_neg D]⟩
  go_wp2_with fail
  go_ret2
  exact⟨by rw[x.out.1,x.out.2];rfl,m⟩
 have q:Hid (au p s):=ed D;have H0:=hid D;rw[D];clear D;go_wp2_with fail;refine(Yj p s.on bin w1 c f.on).mono ?_;rintro e w2 ⟨rfl,ae⟩;have J:=y.trans (ae.mono y.size);clear ae y L E A S c0 c1 c2 c3 c4 c5 c6 c f m;obtain⟨X,c,f,m⟩:=P.out w2 J;obtain⟨⟨L,E,A⟩,S,c0,c1,c2,c3,c4,c5,c6⟩:=X;by_cases o:ui p s.on bin=0;rotate_left
 .have x:Hid (sp p s bin=ui p s.on bin/\z5 p s bin=0):=by
   have e:sp p s bin=ui p s.on bin:=by unfold sp;rw[if_pos H0.out]
   exact⟨e,by unfold z5;rw[e,if_neg o]⟩
  go_wp2_with fail
  go_ret2
  exact⟨by rw[x.out.1,x.out.2];rfl,m⟩
 have K:inB bin 0 ((s.on.n:Int)-1)=true:=by
  cases hq:inB bin 0 ((s.on.n:Int)-1)
  .unfold ui at o;rw[q.out.fm.sh0,hq] at o;simp at o
  rfl
 have ay:=q.out.fm.sh.n;obtain⟨b,hb⟩:=Qzz (aq K).1;have ac:b<p.nb:=by have:=(aq K).2;omega
 have x:Hid (sp p s bin=0/\z5 p s bin=fw p s b/\Gv p s.on bin=ey (s.on.r b).z p.zs p.ns):=by
  have e:sp p s bin=0:=by unfold sp;rw[if_pos H0.out,o]
  exact⟨e,by unfold z5;rw[e,if_pos rfl,hb];rfl,by unfold Gv;rw[o,hb];rfl⟩
 rw[o,x.out.2.2];have bz:=wn (z:=(s.on.r b).z) (zs:=p.zs) (n:=p.ns) (λj hj=>⟨q.out.fm.sh.num b (by omega) j hj,q.out.fm.sh.pl.sizes j hj⟩) p.ns nlr;have ns3:=q.out.fm.sh.pl.ns3;have ms8:=q.out.fm.ms8;have ba:0<=(p.zb b).room/\(p.zb b).room<=1000:=by
  have:=q.out.fm.sh.pl.bins b ac;simp only[qf,Xxq,Bool.not_eq_false'] at this;exact aq this.1.1
 have TB:Hid (∀k,k<=s.ms.n->0<=jj p s b k/\jj p s b k<=1800*k):=D1 q.out.fm b;have TH:Hid (fw p s b=(p.zb b).room-ey (s.on.r b).z p.zs p.ns-jj p s b s.ms.n):=rfl;obtain⟨bb,bo,Y,am,Q,y1,y2,y3⟩:=c.bins b ac;rw[Y] at E;have HF:=hid q.out.fm;clear Y o K c f ay q;subst hb
 generalize ey (s.on.r b).z p.zs p.ns=US at *
 generalize (p.zb b).room=RM at *
 have q1:(0:Int)<=(b:Int):=by omega
 go_wp2_with fail
 go_loopw [11,42] (λu i wk=>∃k:Nat,k<=s.ms.n/\i = .int .i64 k/\u = .int .i64 (RM-US-jj p s b k)/\Below F.heap.size F wk) (λ_ i _=>s.ms.n-(intOf i).toNat)
 case atStart=>exact⟨0,Qxz _,rfl,by simp[jj],J⟩
 clear J m L E A S c0 c1 c2 c3 c4 c5 c6 Q y1 y2 y3 am;obtain⟨k,hk,rfl,rfl,y⟩:=hrel;have m1:=TB.out k hk;by_cases ad:k<s.ms.n;rotate_left
 .have ap:k=s.ms.n:=by omega
  subst ap;go_wp2_with fail
  go_ret2
  exact⟨by rw[x.out.1,x.out.2.1,TH.out];rfl,M.trans (y.mono M.size)⟩
 obtain⟨X,c,f,m⟩:=P.out wr y;obtain⟨⟨L,E,A⟩,S,-⟩:=X;obtain⟨b1,o1,W,bx,z0,z1,z2,z3⟩:=f.ms.hds k ad;have v:=qn (HF.out.move k ad);obtain⟨g,hg⟩:=Qzz v.1.1;have V:g<p.ns:=by omega
 obtain⟨b2,o2,aa,az,Q⟩:=c.sizes g V;have a5:=HF.out.sh.pl.sizes g V;have a2:=v.2.2.2.2;have bv:=Da (a:=(s.ms.z k).n) (b:=p.zs g) ⟨by omega,a2.2⟩ a5;have T:Hid (((s.ms.z k).b=b->jj p s b (k+1)=jj p s b k+(s.ms.z k).n*p.zs g)/\(¬(s.ms.z k).b=b->jj p s b (k+1)=jj p s b k)):=⟨λh=>by rw[Mw h,hg];rfl,J6⟩;rw[hg] at z0;rw[aa] at A;obtain⟨t,H,B,hY⟩:∃t,wr.alloc (.cells #[.int .i64 g,.int .i64 (s.ms.z k).l,.int .i64 (s.ms.z k).b,.int .i64 (s.ms.z k).n] 63)=t/\Below F.heap.size F t/\Blk t wr.heap.size 63 4 (λj=>(#[.int .i64 g,.int .i64 (s.ms.z k).l,.int .i64 (s.ms.z k).b,.int .i64 (s.ms.z k).n]:Array Value).getD j default):=⟨_,rfl,y.alloc y.size _,Blk.mk' rfl rfl⟩;have HV:=hid H;have G:Below wr.heap.size wr t:=by rw[<-H];exact brf.alloc nlr _
 have r0:=Qqq (hY.k 0);have r3:=Qqq (hY.k 3);have r4:∀d os,(grow (redrawn t d) os).cell? ⟨w.heap.size,1,none⟩=some (.slice (some ⟨b2,o2,none⟩) p.ns p.cs):=λd os=>Qqq ((G.cell (p:=⟨w.heap.size,1,none⟩) L).trans A) d os;have r5:∀d os,(grow (redrawn t d) os).cell? ⟨b2,o2+g,none⟩=some (.int .i64 (p.zs g)):=λd os=>Qqq ((G.cell (p:=⟨b2,o2+g,none⟩) az).trans Q) d os;have q2:(0:Int)<=(g:Int):=by omega
 have q3:(0:Int)<=(k:Int):=by omega
 rw[W];clear W aa hg v H c f m Q G E A
 generalize jj p s b k=U at *
 generalize (s.ms.z k).b=BB at *
 generalize (s.ms.z k).l=LL at *
 generalize (s.ms.z k).n=NN at *
 generalize p.zs g=ZG at *
 cases o:(BB==(b:Int))
 .have v:=T.out.2 (by simpa using o);have HM:=hid v;clear v T r0 r3 r4 r5;go_wp2_with fail;rw[HV.out];go_roundw
  case rel=>exact⟨k+1,by omega,by go_num,by rw[HM.out],B⟩
  case measure=>simp[intOf];omega
 have v:=T.out.1 (by simpa using o);have HM:=hid v;clear v T;go_wp2_with fail;rw[HV.out]
 generalize hPR:NN*ZG=PR at *
 refine Qxq (by kernel_rfl) (by kernel_rfl) ?_
 repeat(go_big_quiet_step(fail))
 refine Qqz ?_;intro _ a0;obtain⟨⟨dq,ab⟩,aj⟩:=a0;subst aj;have hC:=B.trans ((Qxx t dq ab).mono B.size);clear r0 r3 r4 r5 hY B HV
 generalize grow (redrawn t dq) ab=wz at *
 go_wp2_with fail;go_roundw
 case rel=>exact⟨k+1,by omega,by go_num,by rw[HM.out,Int.sub_sub _ U],hC⟩
 case measure=>simp[intOf];omega
def zr(p:Pl)(s:St):Prop:=s.on.n=p.nb/\(∀i,i<p.nb->(s.on.r i).n=p.ns/\∀j,j<p.ns->(s.on.r i).z j=0)/\s.os.n=0/\s.hs.n=0/\s.ms.n=0 /\
 (s.si.n=p.ns/\∀j,j<p.ns->s.si.z j=0)/\(s.so.n=p.ns/\∀j,j<p.ns->s.so.z j=0)/\(s.sf.n=p.ns/\∀j,j<p.ns->s.sf.z j=0)
def Dj(s:St):Prop:=s.on.n=0/\s.os.n=0/\s.hs.n=0/\s.ms.n=0/\s.si.n=0/\s.so.n=0/\s.sf.n=0
def aad(p:Pl)(s:St):Prop:=(iy p=0->zr p s)/\(¬iy p=0->Dj s)
def l8:St:=⟨⟨none,0,0,λ_=>⟨none,0,0,λ_=>0⟩⟩,⟨none,0,0,λ_=>⟨0,⟨none,0,0,λ_=>⟨0,0,0,0⟩⟩⟩⟩,⟨none,0,0,λ_=>⟨0,0,0,0⟩⟩,⟨none,0,0,λ_=>⟨0,0,0,0⟩⟩,⟨none,0,0,λ_=>0⟩,⟨none,0,0,λ_=>0⟩,⟨none,0,0,λ_=>0⟩⟩
theorem Rw.none(w:World):Rw.At w ⟨.none,0,0,λ_=>0⟩:=⟨Nat.le_refl _,Qxz _,λi hi=>absurd hi (Qzq _)⟩
theorem Hs.none(w:World):Hs.At w ⟨.none,0,0,λ_=>⟨0,0,0,0⟩⟩:=⟨Nat.le_refl _,Qxz _,λi hi=>absurd hi (Qzq _),λ_=>rfl⟩
theorem vy(w:World):l8.At w :=
 ⟨⟨Nat.le_refl _,Qxz _,λi hi=>absurd hi (Qzq _)⟩,⟨Nat.le_refl _,Qxz _,λi hi=>absurd hi (Qzq _)⟩,Hs.none w,Hs.none w,Rw.none w,Rw.none w,Rw.none w⟩
theorem ace{j n:Nat}(a:j<n):(madeCells (Value.int .i64 0).cells n).toList.getD j default = .int .i64 0:=by
 simp[madeCells,Value.cells,a,Nat.mod_one]
theorem acf{j n:Nat}(a:j<n):(madeCells (Value.slice .none 0 0).cells n).toList.getD j default = .slice .none 0 0:=by
 simp[madeCells,Value.cells,a,Nat.mod_one]
theorem abo:(prog.info? 3).map (λi=>(i.zero,i.size,i.bytes))=some (some (.int .i64 0),1,8):=by kernel_rfl
theorem abp:(prog.info? 23).map (λi=>(i.zero,i.size,i.bytes))=some (some (.slice .none 0 0),1,24):=by kernel_rfl
theorem B9(B:Nat)(p:Pl)(w:World)(ns3:p.ns<=3)(s:B<w.heap.size)(c1:w.cell? ⟨B,1,none⟩=some (.slice p.sa p.ns p.cs)):
  Calls prog 62 #[.pointer (some ⟨B,0,none⟩)] w λe h=>e = .returned (.slice (some ⟨w.heap.size,0,none⟩) p.ns p.ns)/\Blk h w.heap.size 3 p.ns (λ_ => .int .i64 0)/\Below w.heap.size w h:=by
 obtain⟨n,hi,f,i,d⟩:=info_parts abo;go_enter func62,ntmps62;go_wp2_with(at_make;refine wpList_make_full _ rfl _ _ 23 rfl w.heap.size 3 n (.int .i64 0) 1 underlying23 hi f i .i64 .i64 _ _ p.ns rfl rfl rfl rfl (by rw[d];omega) (by unfold maxLen;omega) nlr ?_;intro r c b);go_ret;obtain⟨g,q,l,_,_,_,a⟩:=Blk.ofOwns c (by simp);simp only[Value.slice.injEq,Qkx,Qkz,and_true] at l;obtain⟨rfl,-,-⟩:=l;rw[Nat.mul_one] at a;exact⟨rfl,a.congr (λj m=>ace m),(Below.refl _ w).grown b nlr (by intro k o;cases o)⟩
theorem M2{w:World}{g n:Nat}{e:TypeId}(h:Blk w g e n (λ_ => .int .i64 0))(a:n<=3):Rw.At w ⟨some ⟨g,0,.none⟩,n,n,λ_=>0⟩:=
 ⟨Nat.le_refl _,by show n<=maxLen;unfold maxLen;omega,λi hi=>⟨g,0,rfl,h.lt,by rw[Nat.zero_add];exact h.cell hi⟩⟩
def set7(w:World)(b:Nat)(v0 v1 v2 v3 v4 v5 v6:Value):World :=
 ((((((w.setCell ⟨b,0,none⟩ v0).setCell ⟨b,1,none⟩ v1).setCell ⟨b,2,none⟩ v2).setCell ⟨b,3,none⟩ v3).setCell ⟨b,4,none⟩ v4).setCell ⟨b,5,none⟩ v5).setCell ⟨b,6,none⟩ v6
theorem rq{w:World}{b:Nat}{e:TypeId}{f:Nat->Value}(h:Blk w b e 7 f)(g i c k d a l:Value):Blk (set7 w b g i c k d a l) b e 7 (λj=>(#[g,i,c,k,d,a,l]:Array Value).getD j default):=
 (((((((h.set 0 g).set 1 i).set 2 c).set 3 k).set 4 d).set 5 a).set 6 l).congr λj m=>by match j,m with|0,_=>rfl|1,_=>rfl|2,_=>rfl|3,_=>rfl|4,_=>rfl|5,_=>rfl|6,_=>rfl
theorem xq{w:World}{b g:Nat}{e:TypeId}{n:Nat}{f:Nat->Value}(h:Blk w g e n f)(c:g≠b)(k l i m j d o:Value):Blk (set7 w b k l i m j d o) g e n f :=
 ((((((h.other (a:=⟨b,0,none⟩) c k).other (a:=⟨b,1,none⟩) c l).other (a:=⟨b,2,none⟩) c i).other (a:=⟨b,3,none⟩) c m).other (a:=⟨b,4,none⟩) c j).other (a:=⟨b,5,none⟩) c d).other (a:=⟨b,6,none⟩) c o
theorem nf{n:Nat}{A w:World}{b:Nat}(h:Below n A w)(a:n<=b)(f g d i e c j:Value):Below n A (set7 w b f g d i e c j):=
 ((((((h.setCell (p:=⟨b,0,none⟩) a f).setCell (p:=⟨b,1,none⟩) a g).setCell (p:=⟨b,2,none⟩) a d).setCell (p:=⟨b,3,none⟩) a i).setCell (p:=⟨b,4,none⟩) a e).setCell (p:=⟨b,5,none⟩) a c).setCell (p:=⟨b,6,none⟩) a j
theorem cn{w:World}{b:Nat}{e:TypeId}{f g c i d a l:Value}(h:Blk w b e 7 (λj=>(#[f,g,c,i,d,a,l]:Array Value).getD j default)):
  w.cell? ⟨b,0,none⟩=some f/\w.cell? ⟨b,1,none⟩=some g/\w.cell? ⟨b,2,none⟩=some c/\w.cell? ⟨b,3,none⟩=some i/\w.cell? ⟨b,4,none⟩=some d/\w.cell? ⟨b,5,none⟩=some a/\w.cell? ⟨b,6,none⟩=some l :=
 ⟨h.k 0,h.k 1,h.k 2,h.k 3,h.k 4,h.k 5,h.k 6⟩
theorem ab7(w:World)(x:St):∃W,w.alloc (.cells #[.slice x.on.a x.on.n x.on.c,.slice x.os.a x.os.n x.os.c,.slice x.hs.a x.hs.n x.hs.c,.slice x.ms.a x.ms.n x.ms.c,.slice x.si.a x.si.n x.si.c,.slice x.so.a x.so.n x.so.c,.slice x.sf.a x.sf.n x.sf.c] 31)=W/\Below w.heap.size w W/\Blk W w.heap.size 31 7 (λj=>x.cells.getD j default):=⟨_,rfl,(Below.refl _ _).alloc (Nat.le_refl _) _,Blk.mk' rfl rfl⟩
theorem n7b{w:World}{b:Nat}{e:TypeId}{f:Nat->Value}(h:Blk w b e 7 f):Blk (set7 w b (.slice .none 0 0) (.slice .none 0 0) (.slice .none 0 0) (.slice .none 0 0) (.slice .none 0 0) (.slice .none 0 0) (.slice .none 0 0)) b e 7 (λj=>(#[.slice .none 0 0,.slice .none 0 0,.slice .none 0 0,.slice .none 0 0,.slice .none 0 0,.slice .none 0 0,.slice .none 0 0]:Array Value).getD j default):=rq h (.slice .none 0 0) (.slice .none 0 0) (.slice .none 0 0) (.slice .none 0 0) (.slice .none 0 0) (.slice .none 0 0) (.slice .none 0 0)
theorem n7w{n:Nat}{A w:World}{b:Nat}(h:Below n A w)(a:n<=b):Below n A (set7 w b (.slice .none 0 0) (.slice .none 0 0) (.slice .none 0 0) (.slice .none 0 0) (.slice .none 0 0) (.slice .none 0 0) (.slice .none 0 0)):=nf h a (.slice .none 0 0) (.slice .none 0 0) (.slice .none 0 0) (.slice .none 0 0) (.slice .none 0 0) (.slice .none 0 0) (.slice .none 0 0)
theorem s7b{w:World}{b:Nat}{e:TypeId}{f:Nat->Value}(h:Blk w b e 7 f)(y:St):Blk (set7 w b (.slice y.on.a y.on.n y.on.c) (.slice y.os.a y.os.n y.os.c) (.slice y.hs.a y.hs.n y.hs.c) (.slice y.ms.a y.ms.n y.ms.c) (.slice y.si.a y.si.n y.si.c) (.slice y.so.a y.so.n y.so.c) (.slice y.sf.a y.sf.n y.sf.c)) b e 7 (λj=>(#[.slice y.on.a y.on.n y.on.c,.slice y.os.a y.os.n y.os.c,.slice y.hs.a y.hs.n y.hs.c,.slice y.ms.a y.ms.n y.ms.c,.slice y.si.a y.si.n y.si.c,.slice y.so.a y.so.n y.so.c,.slice y.sf.a y.sf.n y.sf.c]:Array Value).getD j default):=rq h (.slice y.on.a y.on.n y.on.c) (.slice y.os.a y.os.n y.os.c) (.slice y.hs.a y.hs.n y.hs.c) (.slice y.ms.a y.ms.n y.ms.c) (.slice y.si.a y.si.n y.si.c) (.slice y.so.a y.so.n y.so.c) (.slice y.sf.a y.sf.n y.sf.c)
theorem s7w{n:Nat}{A w:World}{b:Nat}(h:Below n A w)(d:n<=b)(y:St):Below n A (set7 w b (.slice y.on.a y.on.n y.on.c) (.slice y.os.a y.os.n y.os.c) (.slice y.hs.a y.hs.n y.hs.c) (.slice y.ms.a y.ms.n y.ms.c) (.slice y.si.a y.si.n y.si.c) (.slice y.so.a y.so.n y.so.c) (.slice y.sf.a y.sf.n y.sf.c)):=nf h d (.slice y.on.a y.on.n y.on.c) (.slice y.os.a y.os.n y.os.c) (.slice y.hs.a y.hs.n y.hs.c) (.slice y.ms.a y.ms.n y.ms.c) (.slice y.si.a y.si.n y.si.c) (.slice y.so.a y.so.n y.so.c) (.slice y.sf.a y.sf.n y.sf.c)
def nt(P:Program)(ops:Array Oper)(Q:Exit->Act->World->Prop)(S:World->Prop)(T:Nat->Bool):Nat->Array Bool->Act->World->Prop
 | 0,listed,a,w=>Region.ready .any ops listed=[]/\Q .normal a w
 | fuel+1,listed,a,w=>(Region.ready .any ops listed=[]->Q .normal a w) /\
   ∀i∈Region.ready .any ops listed,wpOp P ops Q i (λa' w'=>(T i=false->S w')/\nt P ops Q S T fuel (listed.setIfInBounds i true) a' w') a w
theorem Ai{P:Program}{c:Array Oper}{Q:Exit->Act->World->Prop}{S:World->Prop}{T:Nat->Bool}:∀(fuel:Nat) (b:Array Bool) (a:Act) (w:World),nt P c Q S T fuel b a w->wpAny P .any c Q fuel b a w
 | 0,_,_,_,h=>h
 | fuel+1,_,_,_,h=>⟨h.1,λi hi=>wpOp_mono (λf e d=>Ai fuel _ f e d.2) (h.2 i hi)⟩
def ni(ops:Array Oper)(listed:Array Bool):Prop:=∀j,listed.getD j false=true->∀d∈i8 ops j,listed.getD d false=true
def rv(ops:Array Oper):Nat->Nat->Nat->Bool
 | 0,_,_=>false
 | f+1,j,i=>(i8 ops j).any (λd=>d==i||rv ops f d i)
theorem vz{c:Array Oper}{a:Array Bool}(hc:ni c a):∀(f j i:Nat),(∀d∈i8 c j,a.getD d false=true)->rv c f j i=true->a.getD i false=true
 | 0,_,_,_,h=>by simp[rv] at h
 | f+1,j,i,hd,h=>by
  unfold rv at h;obtain⟨d,e,b⟩:=List.any_eq_true.1 h;simp only[Bool.or_eq_true,beq_iff_eq] at b;rcases b with rfl|b
  .exact hd d e
  exact vz hc f d i (hc d (hd d e)) b
theorem Ac{b:Array Oper}{a:Array Bool}{j:Nat}(h:j∈Region.ready .any b a):∀d∈i8 b j,a.getD d false=true:=λd hd=>by
 obtain⟨_,o,f,c⟩:=mem_ready.1 h;unfold i8 at hd;rw[f] at hd;obtain⟨e,g,rfl⟩:=List.mem_map.1 hd;have:=List.mem_filter.1 g;exact c e (by simpa using this.1) this.2
theorem Ou{a:Array Bool}{i d:Nat}(h:a.getD d false=true):(a.setIfInBounds i true).getD d false=true:=by
 by_cases hid:i=d
 .subst hid;by_cases b:i<a.size
  .simp[Array.getD,b]
  simp[Array.getD,b] at h
 rw[getD_set_ne false hid];exact h
theorem ni.set{b:Array Oper}{a:Array Bool}(hc:ni b a){i:Nat}(hi:i∈Region.ready .any b a):ni b (a.setIfInBounds i true):=λj e d hd=>by
 by_cases c:i=j
 .subst c;exact Ou (Ac hi d hd)
 rw[getD_set_ne false c] at e;exact Ou (hc j e d hd)
theorem ni.none(a:Array Oper)(n:Nat):ni a (Array.replicate n false):=λj c=>by
 by_cases b:j<n<;>simp[Array.getD,b] at c
theorem Iy{P:Program}{f:Array Oper}{Q:Exit->Act->World->Prop}{S:World->Prop}{T:Nat->Bool}{N:Nat}{i:Nat}{p:Oper}{v:Value}(hi:f[i]?=some p)(s:∀(j:Nat) (o:Oper) cs b,f[j]?=some o->o.op ≠ .select cs b)
  (hQ:∀c a w,Q (.panic c) (a.put p.dst v) w->Q (.panic c) a w) (X:∀j,T j=true->rv f N j i=true) (ag:T i=false) :
  ∀(fuel:Nat) (d:Array Bool) (a:Act) (w:World),
   (∀j n,f[j]?=some n->j≠i->d.getD j true=false->(∀e∈n.after,Region.binds .any e=true->e.on≠i)->p.apart f n=true) ->
   i∈Region.ready .any f d->ni f d->YieldsIf P f S p v a->S w ->
   nt P f Q S T fuel (d.setIfInBounds i true) (a.put p.dst v) w->nt P f Q S T (fuel+1) d a w:=by
 intro fuel
 induction fuel with
 | zero =>
  intro d a w _ m _ B z H;refine⟨λh=>(by rw[h] at m;cases m),λj r => ?_⟩;by_cases g:j=i
  .subst g;exact B.wpOp hi z ⟨λ_=>z,H⟩
  have:=ready_mono r g;rw[H.1] at this;cases this
 | succ fuel ih =>
  intro d a w q m hc B z H;refine⟨λh=>(by rw[h] at m;cases m),λj r => ?_⟩;by_cases g:j=i
  .subst g;exact B.wpOp hi z ⟨λ_=>z,H⟩
  have l:=H.2 j (ready_mono r g);obtain⟨u,n,x,J⟩:=mem_ready.1 r;have y:¬d.getD i false=true:=λl=>by
   have U:=(mem_ready.1 m).1;rcases Nat.lt_or_ge i d.size with G|G
   .simp[G] at U l;rw[U] at l;cases l
   simp[Array.getElem?_eq_none G] at l
  have F:∀e∈n.after,Region.binds .any e=true->e.on≠i:=λe W hb M=>by
   have l:=J e W hb;rw[M] at l;exact y l
  have L:T j=false:=by
   cases Y:T j
   .rfl
   exact absurd (vz hc N j i (Ac r) (X j Y)) y
  have h2:=wpOp_putIf x (q j n x g u F) (λcs b=>s i p cs b hi) (λcs b=>s j n cs b x) hQ B l;have t:∀k ok,f[k]?=some ok->k≠i->(d.setIfInBounds j true).getD k true=false ->
    (∀e∈ok.after,Region.binds .any e=true->e.on≠i)->p.apart f ok=true:=λk ok hk V D K=>by
   refine q k ok hk V ?_ K;by_cases E:j=k
   .subst E;exact u
   rw[getD_set_ne true E] at D;exact D
  refine wpOp_mono (λa' w' A=>⟨A.2.1,ih (d.setIfInBounds j true) a' w' t (ready_mono m (Ne.symm g)) (hc.set r) A.1 (A.2.1 L) ?_⟩) h2;rw[Array.setIfInBounds_comm _ _ g];exact A.2.2
theorem Bz{P:Program}{l:List Oper}{Q:Exit->Act->World->Prop}{S:World->Prop}{T:Nat->Bool}{N:Nat}{K:Act->Prop}{w:World}{fuel:Nat}(hs:Region.noSelect l.toArray=true)(f:S w)(p:∀c a a' w,Q (.panic c) a w->Q (.panic c) a' w):
  ∀(d:List Nat) (os:List Oper) (b:Array Bool) (a:Act),sd l.toArray d b=true->(∀k∈d,T k=false/\∀j,T j=true->rv l.toArray N j k=true)->ni l.toArray b->d.map (λk=>l[k]?)=os.map some->(os.all yh)=true ->
   wpQuiet P l.toArray S K os a->(∀a,K a->ni l.toArray (ip b d)->nt P l.toArray Q S T fuel (ip b d) a w)->nt P l.toArray Q S T (d.length+fuel) b a w
 | [],[],b,a,_,_,hc,_,_,h,hK=>by rw[List.length_nil,Nat.zero_add];exact hK a h hc
 | k :: d,o :: os,b,a,hB,hTk,hc,hk,hv,h,hK=>by
  simp only[List.map_cons,List.cons.injEq] at hk;simp only[List.all_cons,Xxx] at hv;simp only[sd,Xxx] at hB;rw[List.length_cons,Nat.add_right_comm];have e:k∈Region.ready .any l.toArray b:=by simpa using hB.1.1
  have go:∀v,YieldsIf P l.toArray S o v a->nt P l.toArray Q S T (d.length+fuel) (b.setIfInBounds k true) (a.put o.dst v) w->nt P l.toArray Q S T (d.length+fuel+1) b a w :=
   λv y z=>Iy (N:=N) (by simpa using hk.1) (Region.noSelect_spec hs) (λc a w i=>p _ _ _ _ i) (hTk k (by simp)).2 (hTk k (by simp)).1 _ b a w (Region.free_spec (by simpa using hk.1) hB.1.2) e hc y f z
  have again:=λ(a:Act) (i:wpQuiet P l.toArray S K os a)=>Bz (N:=N) (T:=T) (fuel:=fuel) hs f p d os _ a hB.2 (λA r=>hTk A (by simp[r])) (hc.set e) hk.2 hv.2 i hK;unfold wpQuiet at h
  split at h
  .rename_i g;obtain⟨v,s,t⟩:=h;refine go v (.inl ⟨g,λq f => ?_⟩) (again _ t);have:=s q f;unfold Oper.quietAt at this;cases m:(execOp a.eval o).run P q with
   | ok n w2 =>
    rw[m] at this;obtain⟨u,rfl⟩:=Bj hv.1 m;simp only[Oper.quietUpon] at this;rw[this.1,this.2]
   | halt x w2=>rw[m] at this;exact this.elim
  rename_i g;exact go undef (.inr ⟨by simpa using g,rfl⟩) (again _ h)
 | [],_ :: _,_,_,_,_,_,hk,_,_,_=>by simp at hk
 | _ :: _,[],_,_,_,_,_,hk,_,_,_=>by simp at hk
def jp(t:Bool)(S:World->Prop)(w:World):Prop:=t=false->S w
theorem jp.yes{S:World->Prop}{w:World}:jp true S w:=λh=>by cases h
theorem jp.no{S:World->Prop}{w:World}(h:S w):jp false S w:=λ_=>h
def Ji(P:Program)(ops:Array Oper)(Q:Exit->Act->World->Prop)(S:World->Prop):List (Bool × Nat)->Act->World->Prop
 | [],a,w=>Q .normal a w
 | (t,i) :: r,a,w=>wpOp P ops Q i (λa' w'=>jp t S w'/\Ji P ops Q S r a' w') a w
def Kp(ops:Array Oper):List (Bool × Nat)->Array Bool->Bool
 | [],listed=>Region.ready .any ops listed==[]
 | (t,i) :: r,listed=>Region.ready .any ops listed==[i]&&Kp ops r (listed.setIfInBounds i true)
theorem Cn{P:Program}{d:Array Oper}{Q:Exit->Act->World->Prop}{S:World->Prop}{T:Nat->Bool}:∀(c:List (Bool × Nat)) (b:Array Bool) (a:Act) (w:World),
   Kp d c b=true->(∀t i,(t,i)∈c->T i=t)->Ji P d Q S c a w->nt P d Q S T c.length b a w
 | [],b,a,w,hB,_,h=>⟨by simpa[Kp] using hB,h⟩
 | (t,i) :: r,b,a,w,hB,hT,h=>by
  simp only[Kp,Xxx,beq_iff_eq] at hB;refine⟨λm=>absurd (hB.1.symm.trans m) (by simp),λj g => ?_⟩;rw[hB.1,List.mem_singleton] at g;subst g;refine wpOp_mono (λl k e=>⟨?_,Cn r _ l k hB.2 (λt i f=>hT t i (by simp[f])) e.2⟩) h;rw[hT t j (by simp)];exact e.1
theorem mj{P:Program}{b:Array Oper}{K:Act->World->Prop}{Q:Exit->Act->World->Prop}{a:Act}{w:World}(h:K a w):wpList P b (Exit.then K Q) [] a w:=by unfold wpList;exact h
theorem dj{P:Program}{l:List Oper}{Q:Exit->Act->World->Prop}{S:World->Prop}{r:List (Bool × Nat)}{t:Bool}(k:Nat){o:Oper}{a:Act}{w:World}(c:l[k]?=some o)
  (h:wpList P l.toArray (Exit.then (λd b=>jp t S b/\Ji P l.toArray Q S r d b) Q) [o] a w):Ji P l.toArray Q S ((t,k) :: r) a w :=
 ay k c h
def uo(ops:Array Oper)(rem:List Nat)(L:Array Bool):Bool :=
 (List.range ops.size).all (λi=>L.getD i true||rem.contains i||rem.all (λr=>rv ops ops.size i r)) &&
 Mx ops L [] rem&&rem.all (λr=>decide (r<ops.size) && !L.getD r true)&&decide (L.size=ops.size)&&decide ((rem.map (bu ops)).Nodup)
theorem Xd{P:Program}{c:Array Oper}{Q:Exit->Act->World->Prop}{S:World->Prop}{T:Nat->Bool}{b:List Nat}{L:Array Bool}{a1:Act}{D:Nat->Value->List Nat->World->Prop}{fuel:Nat}(hB:uo c b L=true)(hT:∀r∈b,T r=false)
  (mono:∀j∈b,∀v g w z,Below w.heap.size w z->D j v g w->D j v g z) (lt:∀j∈b,∀v g w,D j v g w->∀x∈g,x<w.heap.size)
  (step:∀i∈b,∀(V:Nat->Value) (G:Nat->List Nat) (w:World) (K:Act->World->Prop),S w->(∀d∈i8 c i,d∈b->D d (V d) (G d) w) ->
   (∀v g z,S z->Below w.heap.size w z->(∀x∈g,w.heap.size<=x)->D i v g z->K ((am c b V a1).put (bu c i) v) z)->wpOp P c Q i K (am c b V a1) w)
  (done:∀(V:Nat->Value) (G:Nat->List Nat) (w:World),S w->(∀j∈b,D j (V j) (G j) w)->(∀j∈b,∀k∈b,j≠k->∀x∈G j,x ∉ G k)->nt P c Q S T fuel (ip L b) (am c b V a1) w) :
  ∀(m:Nat) (a:Array Bool) (V:Nat->Value) (G:Nat->List Nat) (w:World),(b.filter (λr => !a.getD r true)).length=m->a.size=c.size->(∀j,j ∉ b->a[j]?=L[j]?)->ni c a->S w->(∀j∈b,a.getD j true=true->D j (V j) (G j) w) ->
   (∀j∈b,∀k∈b,a.getD j true=true->a.getD k true=true->j≠k->∀x∈G j,x ∉ G k)->nt P c Q S T (m+fuel) a (am c b V a1) w:=by
 simp only[uo,Xxx,decide_eq_true_eq] at hB;obtain⟨⟨⟨⟨ap,ah⟩,aw⟩,bj⟩,ai⟩:=hB;have s:∀r∈b,r<c.size/\L.getD r true=false:=λr hr=>by
  have:=List.all_eq_true.1 aw r hr
  simpa using this
 intro m
 induction m with
 | zero =>
  intro a V G w hm H B ae hS W hA;have A:∀r∈b,a.getD r true=true:=λr hr=>by
   cases hq:a.getD r true
   .have:r∈b.filter (λr => !a.getD r true):=List.mem_filter.2 ⟨hr,by simp[hq]⟩;rw[List.length_eq_zero_iff.1 hm] at this;simp at this
   rfl
  have hl:a=ip L b:=by
   apply Array.ext_getElem?
   intro j;by_cases f:j<L.size
   .rw[Av b L j f];by_cases U:j∈b
    .rw[if_pos U];have p:=A j U;have l:j<a.size:=by omega
     simp only[Array.getD,l,dif_pos] at p;simp[l];exact p
    rw[if_neg U];exact B j U
   rw[Array.getElem?_eq_none (by omega),Array.getElem?_eq_none (by rw[zk];omega)]
  rw[Nat.zero_add,hl];exact done V G w hS (λj f=>W j f (A j f)) λj f k X=>hA j f k X (A j f) (A k X)
 | succ m ih =>
  intro a V G w hm H B ae hS W hA;have ak:∃r∈b,a.getD r true=false:=by
   have a0:b.filter (λr => !a.getD r true)≠[]:=λe=>by rw[e] at hm;simp at hm
   obtain⟨x,hx⟩:=List.exists_mem_of_ne_nil _ a0;have:=List.mem_filter.1 hx;exact⟨x,this.1,by simpa using this.2⟩
  have a5:∀d,L.getD d false=true->a.getD d false=true:=λd hd=>by
   by_cases E:d∈b
   .have p:=(s d E).2;have l:d<L.size:=by have:=(s d E).1;omega
    simp only[Array.getD,l,dif_pos] at p hd;rw[p] at hd;cases hd
   have p:=B d E;by_cases l:d<L.size
   .have Y:d<a.size:=by omega
    simp only[Array.getD,l,Y,dif_pos] at hd ⊢;simp only[Array.getElem?_eq_getElem l,Array.getElem?_eq_getElem Y,Qkx] at p;rw[Array.getInternal_eq_getElem] at hd ⊢;rw[p];exact hd
   simp[Array.getD,l] at hd
  obtain⟨r0,bi,ay⟩:=xv H [] b ah a5 (λd hd=>by simp at hd) (λr hr=>(s r hr).1) ak;rw[Nat.add_right_comm];refine⟨λh0=>absurd (h0▸ay) (by simp),λi hi => ?_⟩;obtain⟨M,o,ho,ax⟩:=mem_ready.1 hi;have ag:∀d∈i8 c i,a.getD d false=true:=λd hd=>by
   unfold i8 at hd;rw[ho] at hd;obtain⟨e,he,rfl⟩:=List.mem_map.1 hd;have:=List.mem_filter.1 he;exact ax e (by simpa using this.1) this.2
  have aj:∀d,a.getD d false=true->a.getD d true=true:=λd hd=>by
   by_cases l:d<a.size
   .simpa[Array.getD,l] using hd
   simp[Array.getD,l]
  have F:i∈b:=by
   cases hc:b.contains i;rotate_left
   .exact Qjz hc
   exfalso;have ba:i<c.size:=(Qkq ho).1;have bc:i ∉ b:=λh=>by
    have:=List.contains_iff_mem.2 h;rw[this] at hc;cases hc
   have p:=List.all_eq_true.1 ap i (List.mem_range.2 ba);have az:L.getD i true=false:=by
    have l:=B i bc;have Y:i<L.size:=by omega
    have h4:i<a.size:=by omega
    simp only[Array.getElem?_eq_getElem Y,Array.getElem?_eq_getElem h4,Qkx] at l;simp only[Array.getD,Y,h4,dif_pos] at M ⊢;rw[Array.getInternal_eq_getElem] at M ⊢;rw[<-l];exact M
   rw[az,hc] at p;simp only[Bool.false_or] at p;obtain⟨q,hq,a4⟩:=ak;have h5:=List.all_eq_true.1 p q hq;have h6:=aj q (vz ae _ i q (Ac hi) h5);rw[a4] at h6;cases h6
  refine step i F V G w _ hS (λd hd E=>W d E (aj d (ag d hd))) (λv g z al au an a8 => ?_);refine⟨λ_=>al,?_⟩;rw[xp ai F];have a9:i<a.size:=by rw[H];exact(s i F).1
  have t:∀j,(a.setIfInBounds i true).getD j true=if j=i then true else a.getD j true:=λj=>by
   by_cases f:j=i
   .subst f;simp[Array.getD,a9]
   rw[if_neg f,getD_set_ne true (λe=>f e.symm)]
  refine ih (a.setIfInBounds i true) (upd V i v) (λj=>if j=i then g else G j) z ?_ (by simpa using H) (λj f => ?_) (ae.set hi) al (λj f y => ?_) (λj f k X y J ao x hx => ?_)
  .have ab:b.Nodup:=by
    exact(List.pairwise_map.1 ai).imp (λh e=>h (by rw[e]))
   have e1:(b.filter (λr => !a.getD r true))=b.filter (λr => !a.getD r true):=rfl;have af:(b.filter (λr => !(a.setIfInBounds i true).getD r true))=(b.filter (λr => !a.getD r true)).erase i:=by
    have e2:b.filter (λr => !(a.setIfInBounds i true).getD r true)=(b.filter (λr => !a.getD r true)).filter (λr=>r !=i):=by
     rw[List.filter_filter];refine List.filter_congr λx hx => ?_;rw[t x];by_cases bb:x=i<;>simp[bb]
    rw[e2,<-List.Nodup.erase_eq_filter (ab.filter _)]
   rw[af,List.length_erase_of_mem (List.mem_filter.2 ⟨F,by simp[M]⟩),hm]
   rfl
  .rw[Array.getElem?_setIfInBounds,if_neg (λe:i=j=>f (by rw[<-e];exact F))];exact B j f
  .unfold upd;by_cases n:j=i
   .subst n;rw[if_pos rfl,if_pos rfl];exact a8
   rw[if_neg n,if_neg n];rw[t j,if_neg n] at y;exact mono j f _ _ _ _ au (W j f y)
  by_cases n:j=i
  .have u:¬k=i:=λe=>ao (n.trans e.symm);rw[if_pos n] at hx;rw[if_neg u];rw[t k,if_neg u] at J;intro ac;have p:=an x hx;have l:=lt k X _ _ _ (W k X J) x ac;omega
  rw[if_neg n] at hx;rw[t j,if_neg n] at y;by_cases u:k=i
  .rw[if_pos u];intro ac;have p:=an x ac;have l:=lt j f _ _ _ (W j f y) x hx;omega
  rw[if_neg u];rw[t k,if_neg u] at J;exact hA j f k X y J ao x hx
def ab3(P:Program)(ops:Array Oper)(Q:Exit->Act->World->Prop)(S:World->Prop)(rem:List Nat)(ord:List (Bool × Nat))(a1:Act):Prop :=
 ∃D:Nat->Value->List Nat->World->Prop,(∀j∈rem,∀v g w w',Below w.heap.size w w'->D j v g w->D j v g w')/\(∀j∈rem,∀v g w,D j v g w->∀x∈g,x<w.heap.size) /\
  (∀i∈rem,∀(V:Nat->Value) (G:Nat->List Nat) (w:World) (K:Act->World->Prop),S w->(∀d∈i8 ops i,d∈rem->D d (V d) (G d) w) ->
   (∀v g w',S w'->Below w.heap.size w w'->(∀x∈g,w.heap.size<=x)->D i v g w'->K ((am ops rem V a1).put (bu ops i) v) w')->wpOp P ops (NoPanic Q) i K (am ops rem V a1) w) /\
  (∀(V:Nat->Value) (G:Nat->List Nat) (w:World),S w->(∀j∈rem,D j (V j) (G j) w)->(∀j∈rem,∀k∈rem,j≠k->∀x∈G j,x ∉ G k)->Ji P ops (NoPanic Q) S ord (am ops rem V a1) w)
def Xt(ops:Array Oper)(ks rem:List Nat)(ord:List (Bool × Nat)):Bool :=
 ks.all (λk => !ord.contains (true,k)&&ord.all (λx => !x.1||rv ops ops.size x.2 k))&&rem.all (λr => !ord.contains (true,r))&&ord.all (λx=>x.1 || !ord.contains (true,x.2))
theorem jt{P:Program}{l:List Oper}{Q:Exit->Act->World->Prop}{id:Nat}{a:Act}{w:World}(S:World->Prop)(e b:List Nat)(d:List (Bool × Nat))(H:S w.drew)(h:wpQuiet P l.toArray S (ab3 P l.toArray Q S b d) (dv l e) a)(hm:P.follows .mixedOrders=true:=by kernel_rfl)(hs:Region.noSelect l.toArray=true:=by kernel_rfl)(J:sd l.toArray e (Array.replicate l.length false)=true:=by kernel_rfl)(A:e.all (λk=>decide (k<l.length))=true:=by kernel_rfl)(L:((dv l e).all yh)=true:=by kernel_rfl)(x:uo l.toArray b (ip (Array.replicate l.length false) e)=true:=by kernel_rfl)(m:Xt l.toArray e b d=true:=by kernel_rfl)(M:Kp l.toArray d (ip (ip (Array.replicate l.length false) e) b)=true:=by kernel_rfl)(hl:e.length+(b.length+d.length)=l.length:=by kernel_rfl):(Code.region id l.toArray true).wp P Q a w:=by
 refine wp_region_noPanic (wp_region_any hm ?_);have n:=x;simp only[uo,Xxx,decide_eq_true_eq] at n;simp only[Xt,Xxx] at m;have K:∀j,(d.contains (true,j))=true->(true,j)∈d:=λj h=>by simpa using h
 have key:=Bz (Q:=NoPanic Q) (T:=λi=>d.contains (true,i)) (N:=l.toArray.size) (fuel:=b.length+d.length) (w:=w.drew) hs H (λc a a' w h=>(h:False).elim) e (dv l e) _ a J (λk F => ?_) (ni.none _ _) (Az A) L h (λa1 W y => ?_)
 .have:=Ai _ _ _ _ key;rw[hl] at this
  simpa using this
 .have q:=List.all_eq_true.1 m.1.1 k F;simp only[Xxx] at q;refine⟨by simpa using q.1,λj g => ?_⟩;have X:=List.all_eq_true.1 q.2 (true,j) (K j g)
  simpa using X
 obtain⟨D,mono,lt,step,done⟩:=W;have v:(b.filter (λr => !(ip (Array.replicate l.length false) e).getD r true))=b:=by
  rw[List.filter_eq_self];intro r u;have:=List.all_eq_true.1 n.1.1.2 r u;simp only[Xxx] at this;exact this.2
 have o:∀j∈b,(ip (Array.replicate l.length false) e).getD j true=true->False:=λj g f=>by
  have:=List.all_eq_true.1 n.1.1.2 j g;simp only[Xxx,f] at this;simp at this
 obtain⟨s,E⟩:∃s,am l.toArray b s a1=a1:=⟨_,uw a1 b⟩;have:=Xd (P:=P) (Q:=NoPanic Q) (S:=S) (T:=λi=>d.contains (true,i)) (a1:=a1) (fuel:=d.length) x (λr u=>by have:=List.all_eq_true.1 m.1.2 r u;simpa using this) mono lt step
  (λV G z B U Y=>Cn d _ _ z M (λt i p=>by
   cases t with
   | true=>simpa using p
   | false =>
    have:=List.all_eq_true.1 m.2 (false,i) p
    simpa using this) (done V G z B U Y))
  b.length (ip (Array.replicate l.length false) e) s (λ_=>[]) w.drew (by rw[v]) n.1.2 (λ_ _=>rfl) y H (λj g f=>(o j g f).elim) (λj g k F f _ _=>(o j g f).elim)
 rw[E] at this;exact this
def ju(A:Nat)(w:World)(r:Rw):Prop:=∃g,r.a=some ⟨g,0,none⟩/\A<=g/\r.n<=r.c/\r.c<=maxLen/\Blk w g 3 r.n (λj => .int .i64 (r.z j))
theorem ju.at{A:Nat}{w:World}{r:Rw}(h:ju A w r):r.At w:=by
 obtain⟨g,d,_,b,c,a⟩:=h;exact⟨b,c,λi hi=>⟨g,0,d,a.lt,by rw[Nat.zero_add];exact a.cell hi⟩⟩
theorem ju.below{A:Nat}{w a:World}{r:Rw}(h:ju A w r)(b:Below w.heap.size w a):ju A a r:=by
 obtain⟨g,f,e,c,d,i⟩:=h;exact⟨g,f,e,c,d,i.below b⟩
structure ai(A:Nat)(w:World)(s:St):Prop where
 on:∃g,s.on.a=some ⟨g,0,none⟩/\A<=g/\s.on.n<=s.on.c/\s.on.c<=maxLen/\Blk w g 23 s.on.n (λi => .slice (s.on.r i).a (s.on.r i).n (s.on.r i).c)
 rows:∀i,i<s.on.n->ju A w (s.on.r i)
 rapart:∀i j,i<j->j<s.on.n->(s.on.r i).a≠(s.on.r j).a
 os:j7 A w s.os
 hs:cy A 61 w s.hs
 ms:cy A 63 w s.ms
 msr:fo A w 63 4 s.ms.a s.ms.c
 si:ju A w s.si
 so:ju A w s.so
 sf:ju A w s.sf
 aio:s.si.a≠s.so.a
 aif:s.si.a≠s.sf.a
 aof:s.so.a≠s.sf.a
 ari:∀i,i<s.on.n->(s.on.r i).a≠s.si.a/\(s.on.r i).a≠s.so.a/\(s.on.r i).a≠s.sf.a
theorem ai.at{A:Nat}{w:World}{s:St}(h:ai A w s):s.At w:=by
 obtain⟨g,c,_,b,d,a⟩:=h.on;exact⟨⟨b,d,λi hi=>⟨g,0,c,a.lt,by rw[Nat.zero_add];exact a.cell hi,(h.rows i hi).at⟩⟩,h.os.at,h.hs.at,h.ms.at,h.si.at,h.so.at,h.sf.at⟩
theorem ju.other{A:Nat}{t:TypeId}{w:World}{r:Rw}{q n:Nat}{f:Nat->Value}(h:ju A w r)(l:Blk w q t n f)(b:3≠t)(j:Nat)(u:Value):ju A (w.setCell ⟨q,j,none⟩ u) r:=by
 obtain⟨g,k,i,d,e,c⟩:=h;exact⟨g,k,i,d,e,c.other (a:=⟨q,j,none⟩) (Blk.ne2 c l b) u⟩
theorem j7.other{A:Nat}{t:TypeId}{w:World}{s:Os}{q n:Nat}{f:Nat->Value}(h:j7 A w s)(k:Blk w q t n f)(l:57≠t)(o:59≠t)(j:Nat)(u:Value):j7 A (w.setCell ⟨q,j,none⟩ u) s:=by
 refine⟨h.le,h.cap,λm => ?_,λi hi => ?_,h.apart,h.room.set q j u⟩
 .obtain⟨g,a,b,c⟩:=h.list m;exact⟨g,a,b,c.other (a:=⟨q,j,none⟩) (Blk.ne2 c k l) u⟩
 obtain⟨B,a,b,c,d,e⟩:=h.lines i hi;exact⟨B,a,b,c,d,e.other (a:=⟨q,j,none⟩) (Blk.ne2 e k o) u⟩
theorem ai.box{A:Nat}{w:World}{s:St}{q n:Nat}{f:Nat->Value}(h:ai A w s)(b:Blk w q 31 n f)(j:Nat)(u:Value):ai A (w.setCell ⟨q,j,none⟩ u) s:=by
 refine⟨?_,λi hi=>(h.rows i hi).other b (by decide) j u,h.rapart,h.os.other b (by decide) (by decide) j u,h.hs.other b (by decide) j u,h.ms.other b (by decide) j u,h.msr.set q j u,h.si.other b (by decide) j u,h.so.other b (by decide) j u,h.sf.other b (by decide) j u,h.aio,h.aif,h.aof,h.ari⟩;obtain⟨g,k,e,d,l,c⟩:=h.on;exact⟨g,k,e,d,l,c.other (a:=⟨q,j,none⟩) (Blk.ne2 c b (by decide)) u⟩
theorem ai.set7{A:Nat}{w:World}{s:St}{b:Nat}{f:Nat->Value}(h:ai A w s)(d:Blk w b 31 7 f)(a c e g i j k:Value):ai A (Go.Proofs.YtbcacebifpagpagGreat.set7 w b a c e g i j k) s :=
 ((((((h.box d 0 a).box (d.set 0 a) 1 c).box ((d.set 0 a).set 1 c) 2 e).box (((d.set 0 a).set 1 c).set 2 e) 3 g).box ((((d.set 0 a).set 1 c).set 2 e).set 3 g) 4 i).box (((((d.set 0 a).set 1 c).set 2 e).set 3 g).set 4 i) 5 j).box ((((((d.set 0 a).set 1 c).set 2 e).set 3 g).set 4 i).set 5 j) 6 k
def Cb(A:Nat)(s:St)(v:Value)(g:List Nat)(wk:World):Prop:=∃(g0:Nat) (G C:Nat->Nat),v = .slice (some ⟨g0,0,none⟩) s.on.n s.on.n/\A<=g0/\Blk wk g0 23 s.on.n (λi => .slice (some ⟨G i,0,none⟩) (s.on.r i).n (C i)) /\
 (∀i,i<s.on.n->A<=G i/\(s.on.r i).n<=C i/\C i<=maxLen/\Blk wk (G i) 3 (s.on.r i).n (λj => .int .i64 ((s.on.r i).z j)))/\(∀i j,i<j->j<s.on.n->G i<G j)/\g=(List.range s.on.n).map G
theorem Cb.below{A:Nat}{s:St}{v:Value}{g:List Nat}{w c:World}(h:Cb A s v g w)(b:Below w.heap.size w c):Cb A s v g c:=by
 obtain⟨e,G,C,d,k,j,a,l,f⟩:=h;exact⟨e,G,C,d,k,j.below b,λi hi=>⟨(a i hi).1,(a i hi).2.1,(a i hi).2.2.1,(a i hi).2.2.2.below b⟩,l,f⟩
theorem Cb.lt{A:Nat}{s:St}{v:Value}{g:List Nat}{w:World}(h:Cb A s v g w):∀x∈g,x<w.heap.size:=by
 obtain⟨c,G,C,b,e,d,a,f,rfl⟩:=h;intro x hx;obtain⟨i,hi,rfl⟩:=List.mem_map.1 hx;exact(a i (List.mem_range.1 hi)).2.2.2.lt
def ka(A:Nat)(r:Rw)(v:Value)(g:List Nat)(wk:World):Prop:=∃B c,g=[B]/\v = .slice (some ⟨B,0,none⟩) r.n c/\A<=B/\r.n<=c/\c<=maxLen/\Blk wk B 3 r.n (λj => .int .i64 (r.z j))
theorem ka.below{A:Nat}{r:Rw}{v:Value}{g:List Nat}{w a:World}(h:ka A r v g w)(i:Below w.heap.size w a):ka A r v g a:=by
 obtain⟨B,c,b,j,f,d,k,e⟩:=h;exact⟨B,c,b,j,f,d,k,e.below i⟩
theorem ka.lt{A:Nat}{r:Rw}{v:Value}{g:List Nat}{w:World}(h:ka A r v g w):∀x∈g,x<w.heap.size:=by
 obtain⟨B,c,rfl,e,b,d,f,a⟩:=h;intro x hx;rw[List.mem_singleton] at hx;subst hx;exact a.lt
def DHs(A:Nat)(e:TypeId)(s:Hs)(v:Value)(g:List Nat)(wk:World):Prop:=∃s':Hs,g=[]/\v = .slice s'.a s'.n s'.c/\pj A e s wk s'
theorem DHs.below{A:Nat}{e:TypeId}{s:Hs}{v:Value}{g:List Nat}{w b:World}(h:DHs A e s v g w)(a:Below w.heap.size w b):DHs A e s v g b:=by
 obtain⟨i,d,k,c,f,l,j⟩:=h;exact⟨i,d,k,c,f,l.below a,j.below a⟩
theorem j7.below{A:Nat}{w j:World}{s:Os}(h:j7 A w s)(f:Below w.heap.size w j):j7 A j s:=by
 refine⟨h.le,h.cap,λk => ?_,λi hi => ?_,h.apart,h.room.below f⟩
 .obtain⟨g,a,b,c⟩:=h.list k;exact⟨g,a,b,c.below f⟩
 obtain⟨B,a,b,c,d,e⟩:=h.lines i hi;exact⟨B,a,b,c,d,e.below f⟩
theorem j7.mono{A d:Nat}{w:World}{s:Os}(h:j7 A w s)(e:d<=A):j7 d w s:=by
 refine⟨h.le,h.cap,λf => ?_,λi hi => ?_,h.apart,h.room.mono e⟩
 .obtain⟨g,a,b,c⟩:=h.list f;exact⟨g,a,by omega,c⟩
 obtain⟨B,a,b,c⟩:=h.lines i hi;exact⟨B,a,by omega,c⟩
def DOs(A:Nat)(s:Os)(v:Value)(g:List Nat)(wk:World):Prop:=∃s':Os,g=[]/\v = .slice s'.a s'.n s'.c/\Ts s' s/\j7 A wk s'
theorem DOs.below{A:Nat}{s:Os}{v:Value}{g:List Nat}{w a:World}(h:DOs A s v g w)(c:Below w.heap.size w a):DOs A s v g a:=by
 obtain⟨f,d,i,b,e⟩:=h;exact⟨f,d,i,b,e.below c⟩
theorem nd(p:Pl)(s:St)(w:World)(hs:s.At w)(f:cv p s):
  Calls prog 90 #[s.val] w λe u=>∃F:St,e = .returned F.val/\ae F s/\ai w.heap.size u F/\Below w.heap.size w u:=by
 obtain⟨W0,hW,ar,X0,Z0⟩:∃W,((w.alloc (.cells s.cells 31)).alloc (.cells #[.slice .none 0 0,.slice .none 0 0,.slice .none 0 0,.slice .none 0 0,.slice .none 0 0,.slice .none 0 0,.slice .none 0 0] 31))=W/\Below w.heap.size w W/\Blk W w.heap.size 31 7 (λj=>s.cells.getD j default)/\Blk W (w.heap.size+1) 31 7 (λ_ => .slice .none 0 0):=
  ⟨_,rfl,js _ _ _,(Blk.mk' rfl rfl).alloc _,(Blk.mk' (cur:=#[.slice .none 0 0,.slice .none 0 0,.slice .none 0 0,.slice .none 0 0,.slice .none 0 0,.slice .none 0 0,.slice .none 0 0]) (by simp) rfl).congr (λj Q=>by match j,Q with|0,_=>rfl|1,_=>rfl|2,_=>rfl|3,_=>rfl|4,_=>rfl|5,_=>rfl|6,_=>rfl)⟩
 have HW:Hid ((w.alloc (.cells #[.slice s.on.a s.on.n s.on.c,.slice s.os.a s.os.n s.os.c,.slice s.hs.a s.hs.n s.hs.c,.slice s.ms.a s.ms.n s.ms.c,.slice s.si.a s.si.n s.si.c,.slice s.so.a s.so.n s.so.c,.slice s.sf.a s.sf.n s.sf.c] 31)).alloc (.cells #[.slice .none 0 0,.slice .none 0 0,.slice .none 0 0,.slice .none 0 0,.slice .none 0 0,.slice .none 0 0,.slice .none 0 0] 31)=W0):=hW;have HS:=hid (hs.below ar);have t:=hid f;have HZ:=hid Z0;have cs:=ar.size;obtain⟨l1,c0,c1,c2,c3,c4,c5,c6⟩:=Boxed.of X0;have r0:=Qqq c0;have r1:=Qqq c1;have r2:=Qqq c2;have r3:=Qqq c3;have r4:=Qqq c4;have r5:=Qqq c5;have r6:=Qqq c6;clear hW X0 Z0 hs f c0 c1 c2 c3 c4 c5 c6;unfold St.val;go_enter func90,ntmps90;go_wp2_with fail;rw[HW.out];refine jt (λu=>∃p:Regrown,u=grow (redrawn W0 p.d) p.os) [0,1,3,4,6,7,9,10,12,13,15,16,18,19] [2,5,8,11,14,17,20] [(false,21),(true,22)] (Qqx (brf.drew)) ?_;simp only[dv,Qyq,Xqq,Qyx,Qyz,Xqz,Xqx]
 repeat(go_big_quiet_step(fail))
 refine Qqz ?_;clear r0 r1 r2 r3 r4 r5 r6;refine⟨λj v g k=>match j with|2=>Cb w.heap.size s v g k|5=>DOs w.heap.size s.os v g k|8=>DHs w.heap.size 61 s.hs v g k|11=>DHs w.heap.size 63 s.ms v g k|14=>ka w.heap.size s.si v g k|17=>ka w.heap.size s.so v g k|20=>ka w.heap.size s.sf v g k|_=>True,
  Qjx ⟨λv g w u H h=>Cb.below h H,Qjx ⟨λv g w u H h=>DOs.below h H,Qjx ⟨λv g w u H h=>DHs.below h H,Qjx ⟨λv g w u H h=>DHs.below h H,Qjx ⟨λv g w u H h=>ka.below h H,Qjx ⟨λv g w u H h=>ka.below h H,Qjx ⟨λv g w u H h=>ka.below h H,Qjq _⟩⟩⟩⟩⟩⟩⟩,
  Qjx ⟨λv g w h=>Cb.lt h,Qjx ⟨λv g w h=>by obtain⟨_,h1,_⟩:=h;rw[h1];intro x hx;simp at hx,Qjx ⟨λv g w h=>by obtain⟨_,h1,_⟩:=h;rw[h1];intro x hx;simp at hx,Qjx ⟨λv g w h=>by obtain⟨_,h1,_⟩:=h;rw[h1];intro x hx;simp at hx,Qjx ⟨λv g w h=>ka.lt h,Qjx ⟨λv g w h=>ka.lt h,Qjx ⟨λv g w h=>ka.lt h,Qjq _⟩⟩⟩⟩⟩⟩⟩,
  Qjx ⟨?zs2,Qjx ⟨?zs5,Qjx ⟨?zs8,Qjx ⟨?zs11,Qjx ⟨?zs14,Qjx ⟨?zs17,Qjx ⟨?zs20,Qjq _⟩⟩⟩⟩⟩⟩⟩,?zdone⟩
 case zs2 =>
  intro V G k K A hd y;have l:=af A;refine ay 2 rfl ?_;simp only[am,bu,Qvz,Qwq,Qvx,Act.put,Qvq,Qwx,Qwz] at y ⊢;go_wp2_with fail;refine(Ht s.on k (HS.out.on.below l) (by rw[t.out.sh.n];exact t.out.sh.pl.nb6) (λi hi=>by rw[t.out.sh.len i hi];exact⟨t.out.sh.pl.ns1,t.out.sh.pl.ns3⟩)).mono ?_;rintro e w2 ⟨X,T,Cr,rfl,a1,L,M,U,m⟩;go_wp2_with fail;have q:=l.size;refine y _ ((List.range s.on.n).map T) _ (Qqx (l.trans (m.mono l.size))) m (λx hx => ?_) ⟨X,T,Cr,rfl,by omega,L,λi hi=>⟨by have:=(M i hi).1;omega,(M i hi).2⟩,U,rfl⟩;obtain⟨i,hi,rfl⟩:=List.mem_map.1 hx;have:=(M i (List.mem_range.1 hi)).1;omega
 case zs5 =>
  intro V G k K A hd y;have l:=af A;refine ay 5 rfl ?_;simp only[am,bu,Qvz,Qwq,Qvx,Act.put,Qvq,Qwx,Qwz] at y ⊢;go_wp2_with fail;refine(Nh s.os k (HS.out.os.below l) (by have:=t.out.os4;omega) t.out.lns).mono ?_;rintro e w2 ⟨F,rfl,a1,L,m⟩;have q:=l.size;have HR:Hid (Ts F s.os/\j7 w.heap.size w2 F):=⟨a1,L.mono (by omega)⟩;clear a1 L;simp only[Os.val];go_wp2_with fail;exact y _ [] _ (Qqx (l.trans (m.mono l.size))) m (λx hx=>by simp at hx) ⟨F,rfl,rfl,HR.out.1,HR.out.2⟩
 case zs8 =>
  intro V G k K A hd y;have l:=af A;refine ay 8 rfl ?_;simp only[am,bu,Qvz,Qwq,Qvx,Act.put,Qvq,Qwx,Qwz] at y ⊢;go_wp2_with fail;refine(Ph s.hs k (HS.out.hs.below l) (by have:=t.out.hs72;omega)).mono ?_;rintro e w2 ⟨F,rfl,hc,m⟩;have q:=l.size;have HR:Hid (pj w.heap.size 61 s.hs w2 F):=⟨hc.1,hc.2.1,hc.2.2.1.mono (by omega),hc.2.2.2.mono (by omega)⟩;clear hc;simp only[Hs.val];go_wp2_with fail;exact y _ [] _ (Qqx (l.trans (m.mono l.size))) m (λx hx=>by simp at hx) ⟨F,rfl,rfl,HR.out⟩
 case zs11 =>
  intro V G k K A hd y;have l:=af A;refine ay 11 rfl ?_;simp only[am,bu,Qvz,Qwq,Qvx,Act.put,Qvq,Qwx,Qwz] at y ⊢;go_wp2_with fail;refine(Pi s.ms k (HS.out.ms.below l) (by have:=t.out.ms8;omega)).mono ?_;rintro e w2 ⟨F,rfl,hc,m⟩;have q:=l.size;have HR:Hid (pj w.heap.size 63 s.ms w2 F):=⟨hc.1,hc.2.1,hc.2.2.1.mono (by omega),hc.2.2.2.mono (by omega)⟩;clear hc;simp only[Hs.val];go_wp2_with fail;exact y _ [] _ (Qqx (l.trans (m.mono l.size))) m (λx hx=>by simp at hx) ⟨F,rfl,rfl,HR.out⟩
 case zs14 =>
  intro V G k K A hd y;have l:=af A;have bf:=t.out.sh.pl.ns1;have a0:=t.out.sh.pl.ns3;have ah:Hid (Calls prog 140 #[.slice s.si.a s.si.n s.si.c] k λe u=>∃g B,e = .returned (.slice (some ⟨g,0,none⟩) s.si.n B)/\s.si.n<=B/\B<=maxLen/\k.heap.size<=g/\Blk u g 3 s.si.n (λj => .int .i64 (s.si.z j))/\Below k.heap.size k u):=by
   have hr:=HS.out.si.below l;obtain⟨b,o,ha,-,-⟩:=hr.ints 0 (by rw[t.out.sin];omega);have hi:=hr.ints;have hz:s.si.n=p.ns:=t.out.sin;rw[ha] at hi;have:=Di b o s.si.n s.si.c s.si.z k (by omega) (by omega) hi;rw[<-ha] at this;exact this
  refine ay 14 rfl ?_;simp only[am,bu,Qvz,Qwq,Qvx,Act.put,Qvq,Qwx,Qwz] at y ⊢;go_wp2_with fail;refine ah.out.mono ?_;rintro e w2 ⟨g,B,rfl,a1,L,M,U,m⟩;have q:=l.size;go_wp2_with fail;exact y _ [g] _ (Qqx (l.trans (m.mono l.size))) m (λx hx=>by rw[List.mem_singleton] at hx;omega) ⟨g,B,rfl,rfl,by omega,a1,L,U⟩
 case zs17 =>
  intro V G k K A hd y;have l:=af A;have bf:=t.out.sh.pl.ns1;have a0:=t.out.sh.pl.ns3;have ah:Hid (Calls prog 140 #[.slice s.so.a s.so.n s.so.c] k λe u=>∃g B,e = .returned (.slice (some ⟨g,0,none⟩) s.so.n B)/\s.so.n<=B/\B<=maxLen/\k.heap.size<=g/\Blk u g 3 s.so.n (λj => .int .i64 (s.so.z j))/\Below k.heap.size k u):=by
   have hr:=HS.out.so.below l;obtain⟨b,o,ha,-,-⟩:=hr.ints 0 (by rw[t.out.son];omega);have hi:=hr.ints;have hz:s.so.n=p.ns:=t.out.son;rw[ha] at hi;have:=Di b o s.so.n s.so.c s.so.z k (by omega) (by omega) hi;rw[<-ha] at this;exact this
  refine ay 17 rfl ?_;simp only[am,bu,Qvz,Qwq,Qvx,Act.put,Qvq,Qwx,Qwz] at y ⊢;go_wp2_with fail;refine ah.out.mono ?_;rintro e w2 ⟨g,B,rfl,a1,L,M,U,m⟩;have q:=l.size;go_wp2_with fail;exact y _ [g] _ (Qqx (l.trans (m.mono l.size))) m (λx hx=>by rw[List.mem_singleton] at hx;omega) ⟨g,B,rfl,rfl,by omega,a1,L,U⟩
 case zs20 =>
  intro V G k K A hd y;have l:=af A;have bf:=t.out.sh.pl.ns1;have a0:=t.out.sh.pl.ns3;have ah:Hid (Calls prog 140 #[.slice s.sf.a s.sf.n s.sf.c] k λe u=>∃g B,e = .returned (.slice (some ⟨g,0,none⟩) s.sf.n B)/\s.sf.n<=B/\B<=maxLen/\k.heap.size<=g/\Blk u g 3 s.sf.n (λj => .int .i64 (s.sf.z j))/\Below k.heap.size k u):=by
   have hr:=HS.out.sf.below l;obtain⟨b,o,ha,-,-⟩:=hr.ints 0 (by rw[t.out.sfn];omega);have hi:=hr.ints;have hz:s.sf.n=p.ns:=t.out.sfn;rw[ha] at hi;have:=Di b o s.sf.n s.sf.c s.sf.z k (by omega) (by omega) hi;rw[<-ha] at this;exact this
  refine ay 20 rfl ?_;simp only[am,bu,Qvz,Qwq,Qvx,Act.put,Qvq,Qwx,Qwz] at y ⊢;go_wp2_with fail;refine ah.out.mono ?_;rintro e w2 ⟨g,B,rfl,a1,L,M,U,m⟩;have q:=l.size;go_wp2_with fail;exact y _ [g] _ (Qqx (l.trans (m.mono l.size))) m (λx hx=>by rw[List.mem_singleton] at hx;omega) ⟨g,B,rfl,rfl,by omega,a1,L,U⟩
 case zdone =>
  intro V G k A hD hA;obtain⟨X,T,Cr,v2,a1,L,M,U,a8⟩:Cb w.heap.size s (V 2) (G 2) k:=hD 2 (by simp);obtain⟨E,-,v5,b1,b2⟩:DOs w.heap.size s.os (V 5) (G 5) k:=hD 5 (by simp);obtain⟨D,-,v8,d1,d2,d3,-⟩:DHs w.heap.size 61 s.hs (V 8) (G 8) k:=hD 8 (by simp);obtain⟨m',-,ba,f1,f2,f3,f4⟩:DHs w.heap.size 63 s.ms (V 11) (G 11) k:=hD 11 (by simp);obtain⟨J,k1,ac,bb,i1,i2,i3,i4⟩:ka w.heap.size s.si (V 14) (G 14) k:=hD 14 (by simp);obtain⟨P,k2,Y,a6,j1,j2,j3,j4⟩:ka w.heap.size s.so (V 17) (G 17) k:=hD 17 (by simp);obtain⟨S,k3,aa,bd,l2,l3,l4,l5⟩:ka w.heap.size s.sf (V 20) (G 20) k:=hD 20 (by simp);have bc:J≠P:=λe=>hA 14 (by simp) 17 (by simp) (by decide) J (by rw[ac];simp) (by rw[Y,e];simp);have a5:J≠S:=λe=>hA 14 (by simp) 20 (by simp) (by decide) J (by rw[ac];simp) (by rw[aa,e];simp);have be:P≠S:=λe=>hA 17 (by simp) 20 (by simp) (by decide) P (by rw[Y];simp) (by rw[aa,e];simp);have nr:∀i,i<s.on.n->T i≠J/\T i≠P/\T i≠S:=λi hi=>by
   have hm:T i∈G 2:=by rw[a8];exact List.mem_map.2 ⟨i,List.mem_range.2 hi,rfl⟩
   exact⟨λe=>hA 2 (by simp) 14 (by simp) (by decide) _ hm (by rw[ac,e];simp),λe=>hA 2 (by simp) 17 (by simp) (by decide) _ hm (by rw[Y,e];simp),λe=>hA 2 (by simp) 20 (by simp) (by decide) _ hm (by rw[aa,e];simp)⟩
  have l:=af A;have hz:=HZ.out.below l;clear hD hA a8 ac Y aa;have HR:Hid (ai w.heap.size k ⟨⟨some ⟨X,0,none⟩,s.on.n,s.on.n,λi=>⟨some ⟨T i,0,none⟩,(s.on.r i).n,Cr i,(s.on.r i).z⟩⟩,E,D,m',⟨some ⟨J,0,none⟩,s.si.n,k1,s.si.z⟩,⟨some ⟨P,0,none⟩,s.so.n,k2,s.so.z⟩,⟨some ⟨S,0,none⟩,s.sf.n,k3,s.sf.z⟩⟩):=by
   refine⟨⟨X,rfl,a1,Nat.le_refl _,?_,L⟩,λi hi=>⟨T i,rfl,(M i hi).1,(M i hi).2.1,(M i hi).2.2.1,(M i hi).2.2.2⟩,λi j bq Q => ?_,b2,d3,f3,f4,⟨J,rfl,i1,i2,i3,i4⟩,⟨P,rfl,j1,j2,j3,j4⟩,⟨S,rfl,l2,l3,l4,l5⟩,?_,?_,?_,λi hi => ?_⟩
   .show s.on.n<=maxLen;have:=t.out.sh.n;have:=t.out.sh.pl.nb6;unfold maxLen;omega
   .have:=U i j bq Q;simp only[ne_eq,Qkx,Qkz,and_true];omega
   .intro e;simp only[Qkx,Qkz,and_true] at e;exact bc e
   .intro e;simp only[Qkx,Qkz,and_true] at e;exact a5 e
   .intro e;simp only[Qkx,Qkz,and_true] at e;exact be e
   obtain⟨x1,x2,x3⟩:=nr i hi;exact⟨λe=>by simp only[Qkx,Qkz,and_true] at e;exact x1 e,λe=>by simp only[Qkx,Qkz,and_true] at e;exact x2 e,λe=>by simp only[Qkx,Qkz,and_true] at e;exact x3 e⟩
  have HC:Hid (ae ⟨⟨some ⟨X,0,none⟩,s.on.n,s.on.n,λi=>⟨some ⟨T i,0,none⟩,(s.on.r i).n,Cr i,(s.on.r i).z⟩⟩,E,D,m',⟨some ⟨J,0,none⟩,s.si.n,k1,s.si.z⟩,⟨some ⟨P,0,none⟩,s.so.n,k2,s.so.z⟩,⟨some ⟨S,0,none⟩,s.sf.n,k3,s.sf.z⟩⟩ s):=
   ⟨⟨rfl,λi hi=>⟨rfl,λj Q=>rfl⟩⟩,b1,⟨d1,λj Q=>d2 j (by rw[<-d1];exact Q)⟩,⟨f1,λj Q=>f2 j (by rw[<-f1];exact Q)⟩,⟨rfl,λj Q=>rfl⟩,⟨rfl,λj Q=>rfl⟩,⟨rfl,λj Q=>rfl⟩⟩
  clear a1 L M U b1 b2 d1 d2 d3 f1 f2 f3 f4 i1 i2 i3 i4 j1 j2 j3 j4 l2 l3 l4 l5 bc a5 be nr;have a7:=hid hz;obtain⟨zl,bn,bl,cg,zc1,bo,zc2,ck,zc3,bm,zc4,cf,zc5,b3,b5⟩:=z7 hz;clear hz;simp only[am,bu,Qvz,Qwq,Qvx,Act.put,Qvq,Qwx,Qwz,v2,v5,v8,ba,bb,a6,bd];refine dj 21 rfl ?_;go_wp2_with fail;refine⟨jp.no A,?_⟩;refine dj 22 rfl ?_;go_wp2_with fail;refine⟨jp.yes,?_⟩;refine NoPanic.normal ?_;have KZ:=rq a7.out (.slice (some ⟨X,0,none⟩) s.on.n s.on.n) (.slice E.a E.n E.c) (.slice D.a D.n D.c) (.slice m'.a m'.n m'.c) (.slice (some ⟨J,0,none⟩) s.si.n k1) (.slice (some ⟨P,0,none⟩) s.so.n k2) (.slice (some ⟨S,0,none⟩) s.sf.n k3);have a9:=nf (b:=w.heap.size+1) (ar.trans (l.mono ar.size)) (by omega) (.slice (some ⟨X,0,none⟩) s.on.n s.on.n) (.slice E.a E.n E.c) (.slice D.a D.n D.c) (.slice m'.a m'.n m'.c) (.slice (some ⟨J,0,none⟩) s.si.n k1) (.slice (some ⟨P,0,none⟩) s.so.n k2) (.slice (some ⟨S,0,none⟩) s.sf.n k3);have av:=ai.set7 HR.out a7.out (.slice (some ⟨X,0,none⟩) s.on.n s.on.n) (.slice E.a E.n E.c) (.slice D.a D.n D.c) (.slice m'.a m'.n m'.c) (.slice (some ⟨J,0,none⟩) s.si.n k1) (.slice (some ⟨P,0,none⟩) s.so.n k2) (.slice (some ⟨S,0,none⟩) s.sf.n k3);unfold set7 at KZ a9 av
  generalize (((((((k.setCell { block:=w.heap.size+1,off:=0 } (Value.slice (some { block:=X,off:=0 }) s.on.n s.on.n)).setCell { block:=w.heap.size+1,off:=1 } (Value.slice E.a E.n E.c)).setCell { block:=w.heap.size+1,off:=2 } (Value.slice D.a D.n D.c)).setCell { block:=w.heap.size+1,off:=3 } (Value.slice m'.a m'.n m'.c)).setCell { block:=w.heap.size+1,off:=4 } (Value.slice (some { block:=J,off:=0 }) s.si.n k1)).setCell { block:=w.heap.size+1,off:=5 } (Value.slice (some { block:=P,off:=0 }) s.so.n k2)).setCell { block:=w.heap.size+1,off:=6 } (Value.slice (some { block:=S,off:=0 }) s.sf.n k3))=WY at *
  clear l zl bn bl cg zc1 bo zc2 ck zc3 bm zc4 cf zc5 b3 b5 v2 v5 v8 ba bb a6 bd A;obtain⟨c0,c1,c2,c3,c4,c5,c6⟩:=cn KZ;have HQ:=hid av;clear av;go_wp2_with fail;refine Xzq (v:=(⟨⟨some ⟨X,0,none⟩,s.on.n,s.on.n,λi=>⟨some ⟨T i,0,none⟩,(s.on.r i).n,Cr i,(s.on.r i).z⟩⟩,E,D,m',⟨some ⟨J,0,none⟩,s.si.n,k1,s.si.z⟩,⟨some ⟨P,0,none⟩,s.so.n,k2,s.so.z⟩,⟨some ⟨S,0,none⟩,s.sf.n,k3,s.sf.z⟩⟩:St).val) (by simp[results,results90,go_sem,St.val,c0,c1,c2,c3,c4,c5,c6]) rfl ?_;exact⟨_,rfl,HC.out,HQ.out,a9⟩
theorem ai.mono{A e:Nat}{w:World}{s:St}(h:ai A w s)(d:e<=A):ai e w s:=by
 have i:∀{r:Rw},ju A w r->ju e w r:=λ⟨g,a,b,c⟩=>⟨g,a,Qzx d b,c⟩;refine⟨?_,λj f=>i (h.rows j f),h.rapart,h.os.mono d,h.hs.mono d,h.ms.mono d,h.msr.mono d,i h.si,i h.so,i h.sf,h.aio,h.aif,h.aof,h.ari⟩;obtain⟨g,a,b,c⟩:=h.on;exact⟨g,a,Qzx d b,c⟩
theorem s7o{A:Nat}{w:World}{s:St}{b:Nat}{f:Nat->Value}(h:ai A w s)(d:Blk w b 31 7 f)(y:St):ai A (set7 w b (.slice y.on.a y.on.n y.on.c) (.slice y.os.a y.os.n y.os.c) (.slice y.hs.a y.hs.n y.hs.c) (.slice y.ms.a y.ms.n y.ms.c) (.slice y.si.a y.si.n y.si.c) (.slice y.so.a y.so.n y.so.c) (.slice y.sf.a y.sf.n y.sf.c)) s:=ai.set7 h d (.slice y.on.a y.on.n y.on.c) (.slice y.os.a y.os.n y.os.c) (.slice y.hs.a y.hs.n y.hs.c) (.slice y.ms.a y.ms.n y.ms.c) (.slice y.si.a y.si.n y.si.c) (.slice y.so.a y.so.n y.so.c) (.slice y.sf.a y.sf.n y.sf.c)
theorem Xe{P:Program}{c:Array Oper}{Q:Exit->Act->World->Prop}{S:World->Prop}{T:Nat->Bool}{b:List Nat}{L:Array Bool}{a1:Act}{D:Nat->Value->List Nat->World->Prop}{fuel:Nat}(hB:uo c b L=true)(hT:∀r∈b,T r=false)
  (mono:∀j∈b,∀v g w A,Below w.heap.size w A->D j v g w->D j v g A) (lt:∀j∈b,∀v g w,D j v g w->∀x∈g,x<w.heap.size)
  (step:∀i∈b,∀(V:Nat->Value) (G:Nat->List Nat) (w:World) (K:Act->World->Prop),S w->(∀d∈i8 c i,d∈b->D d (V d) (G d) w)->(∀d∈i8 c i,∀k∈i8 c i,d∈b->k∈b->d≠k->∀x∈G d,x ∉ G k) ->
   (∀v g A,S A->Below w.heap.size w A->(∀x∈g,w.heap.size<=x)->D i v g A->K ((am c b V a1).put (bu c i) v) A)->wpOp P c Q i K (am c b V a1) w)
  (done:∀(V:Nat->Value) (G:Nat->List Nat) (w:World),S w->(∀j∈b,D j (V j) (G j) w)->(∀j∈b,∀k∈b,j≠k->∀x∈G j,x ∉ G k)->nt P c Q S T fuel (ip L b) (am c b V a1) w) :
  ∀(m:Nat) (a:Array Bool) (V:Nat->Value) (G:Nat->List Nat) (w:World),(b.filter (λr => !a.getD r true)).length=m->a.size=c.size->(∀j,j ∉ b->a[j]?=L[j]?)->ni c a->S w->(∀j∈b,a.getD j true=true->D j (V j) (G j) w) ->
   (∀j∈b,∀k∈b,a.getD j true=true->a.getD k true=true->j≠k->∀x∈G j,x ∉ G k)->nt P c Q S T (m+fuel) a (am c b V a1) w:=by
 simp only[uo,Xxx,decide_eq_true_eq] at hB;obtain⟨⟨⟨⟨aq,aj⟩,aw⟩,bk⟩,ak⟩:=hB;have s:∀r∈b,r<c.size/\L.getD r true=false:=λr hr=>by
  have:=List.all_eq_true.1 aw r hr
  simpa using this
 intro m
 induction m with
 | zero =>
  intro a V G w hm M F ag hS hD hA;have E:∀r∈b,a.getD r true=true:=λr hr=>by
   cases hq:a.getD r true
   .have:r∈b.filter (λr => !a.getD r true):=List.mem_filter.2 ⟨hr,by simp[hq]⟩;rw[List.length_eq_zero_iff.1 hm] at this;simp at this
   rfl
  have hl:a=ip L b:=by
   apply Array.ext_getElem?
   intro j;by_cases f:j<L.size
   .rw[Av b L j f];by_cases X:j∈b
    .rw[if_pos X];have p:=E j X;have l:j<a.size:=by omega
     simp only[Array.getD,l,dif_pos] at p;simp[l];exact p
    rw[if_neg X];exact F j X
   rw[Array.getElem?_eq_none (by omega),Array.getElem?_eq_none (by rw[zk];omega)]
  rw[Nat.zero_add,hl];exact done V G w hS (λj f=>hD j f (E j f)) λj f k J=>hA j f k J (E j f) (E k J)
 | succ m ih =>
  intro a V G w hm M F ag hS hD hA;have al:∃r∈b,a.getD r true=false:=by
   have a0:b.filter (λr => !a.getD r true)≠[]:=λe=>by rw[e] at hm;simp at hm
   obtain⟨x,hx⟩:=List.exists_mem_of_ne_nil _ a0;have:=List.mem_filter.1 hx;exact⟨x,this.1,by simpa using this.2⟩
  have a5:∀d,L.getD d false=true->a.getD d false=true:=λd hd=>by
   by_cases t:d∈b
   .have p:=(s d t).2;have l:d<L.size:=by have:=(s d t).1;omega
    simp only[Array.getD,l,dif_pos] at p hd;rw[p] at hd;cases hd
   have p:=F d t;by_cases l:d<L.size
   .have h3:d<a.size:=by omega
    simp only[Array.getD,l,h3,dif_pos] at hd ⊢;simp only[Array.getElem?_eq_getElem l,Array.getElem?_eq_getElem h3,Qkx] at p;rw[Array.getInternal_eq_getElem] at hd ⊢;rw[p];exact hd
   simp[Array.getD,l] at hd
  obtain⟨r0,bj,ay⟩:=xv M [] b aj a5 (λd hd=>by simp at hd) (λr hr=>(s r hr).1) al;rw[Nat.add_right_comm];refine⟨λh0=>absurd (h0▸ay) (by simp),λi hi => ?_⟩;obtain⟨W,o,ho,ax⟩:=mem_ready.1 hi;have B:∀d∈i8 c i,a.getD d false=true:=λd hd=>by
   unfold i8 at hd;rw[ho] at hd;obtain⟨e,he,rfl⟩:=List.mem_map.1 hd;have:=List.mem_filter.1 he;exact ax e (by simpa using this.1) this.2
  have Y:∀d,a.getD d false=true->a.getD d true=true:=λd hd=>by
   by_cases l:d<a.size
   .simpa[Array.getD,l] using hd
   simp[Array.getD,l]
  have H:i∈b:=by
   cases hc:b.contains i;rotate_left
   .exact Qjz hc
   exfalso;have bb:i<c.size:=(Qkq ho).1;have bd:i ∉ b:=λh=>by
    have:=List.contains_iff_mem.2 h;rw[this] at hc;cases hc
   have p:=List.all_eq_true.1 aq i (List.mem_range.2 bb);have az:L.getD i true=false:=by
    have l:=F i bd;have h3:i<L.size:=by omega
    have h4:i<a.size:=by omega
    simp only[Array.getElem?_eq_getElem h3,Array.getElem?_eq_getElem h4,Qkx] at l;simp only[Array.getD,h3,h4,dif_pos] at W ⊢;rw[Array.getInternal_eq_getElem] at W ⊢;rw[<-l];exact W
   rw[az,hc] at p;simp only[Bool.false_or] at p;obtain⟨q,hq,a4⟩:=al;have h5:=List.all_eq_true.1 p q hq;have h6:=Y q (vz ag _ i q (Ac hi) h5);rw[a4] at h6;cases h6
  refine step i H V G w _ hS (λd hd t=>hD d t (Y d (B d hd))) (λd hd k J t a8=>hA d t k a8 (Y d (B d hd)) (Y k (B k J))) (λv g A an av ao a9 => ?_);refine⟨λ_=>an,?_⟩;rw[xp ak H];have ba:i<a.size:=by rw[M];exact(s i H).1
  have u:∀j,(a.setIfInBounds i true).getD j true=if j=i then true else a.getD j true:=λj=>by
   by_cases f:j=i
   .subst f;simp[Array.getD,ba]
   rw[if_neg f,getD_set_ne true (λe=>f e.symm)]
  refine ih (a.setIfInBounds i true) (upd V i v) (λj=>if j=i then g else G j) A ?_ (by simpa using M) (λj f => ?_) (ag.set hi) an (λj f z => ?_) (λj f k J z U ap x hx => ?_)
  .have ad:b.Nodup:=by
    exact(List.pairwise_map.1 ak).imp (λh e=>h (by rw[e]))
   have e1:(b.filter (λr => !a.getD r true))=b.filter (λr => !a.getD r true):=rfl;have ah:(b.filter (λr => !(a.setIfInBounds i true).getD r true))=(b.filter (λr => !a.getD r true)).erase i:=by
    have e2:b.filter (λr => !(a.setIfInBounds i true).getD r true)=(b.filter (λr => !a.getD r true)).filter (λr=>r !=i):=by
     rw[List.filter_filter];refine List.filter_congr λx hx => ?_;rw[u x];by_cases bc:x=i<;>simp[bc]
    rw[e2,<-List.Nodup.erase_eq_filter (ad.filter _)]
   rw[ah,List.length_erase_of_mem (List.mem_filter.2 ⟨H,by simp[W]⟩),hm]
   rfl
  .rw[Array.getElem?_setIfInBounds,if_neg (λe:i=j=>f (by rw[<-e];exact H))];exact F j f
  .unfold upd;by_cases n:j=i
   .subst n;rw[if_pos rfl,if_pos rfl];exact a9
   rw[if_neg n,if_neg n];rw[u j,if_neg n] at z;exact mono j f _ _ _ _ av (hD j f z)
  by_cases n:j=i
  .have y:¬k=i:=λe=>ap (n.trans e.symm);rw[if_pos n] at hx;rw[if_neg y];rw[u k,if_neg y] at U;intro ae;have p:=ao x hx;have l:=lt k J _ _ _ (hD k J U) x ae;omega
  rw[if_neg n] at hx;rw[u j,if_neg n] at z;by_cases y:k=i
  .rw[if_pos y];intro ae;have p:=ao x ae;have l:=lt j f _ _ _ (hD j f z) x hx;omega
  rw[if_neg y];rw[u k,if_neg y] at U;exact hA j f k J z U ap x hx
def ab4(P:Program)(ops:Array Oper)(Q:Exit->Act->World->Prop)(S:World->Prop)(rem:List Nat)(ord:List (Bool × Nat))(a1:Act):Prop :=
 ∃D:Nat->Value->List Nat->World->Prop,(∀j∈rem,∀v g w w',Below w.heap.size w w'->D j v g w->D j v g w')/\(∀j∈rem,∀v g w,D j v g w->∀x∈g,x<w.heap.size) /\
  (∀i∈rem,∀(V:Nat->Value) (G:Nat->List Nat) (w:World) (K:Act->World->Prop),S w->(∀d∈i8 ops i,d∈rem->D d (V d) (G d) w)->(∀d∈i8 ops i,∀k∈i8 ops i,d∈rem->k∈rem->d≠k->∀x∈G d,x ∉ G k) ->
   (∀v g w',S w'->Below w.heap.size w w'->(∀x∈g,w.heap.size<=x)->D i v g w'->K ((am ops rem V a1).put (bu ops i) v) w')->wpOp P ops (NoPanic Q) i K (am ops rem V a1) w) /\
  (∀(V:Nat->Value) (G:Nat->List Nat) (w:World),S w->(∀j∈rem,D j (V j) (G j) w)->(∀j∈rem,∀k∈rem,j≠k->∀x∈G j,x ∉ G k)->Ji P ops (NoPanic Q) S ord (am ops rem V a1) w)
def Ti(ops:Array Oper)(ks rem:List Nat)(ord:List (Bool × Nat)):Bool :=
 ks.all (λk => !ord.contains (true,k)&&ord.all (λx => !x.1||rv ops ops.size x.2 k))&&rem.all (λr => !ord.contains (true,r))&&ord.all (λx=>x.1 || !ord.contains (true,x.2))
theorem tc{P:Program}{l:List Oper}{Q:Exit->Act->World->Prop}{id:Nat}{a:Act}{w:World}(S:World->Prop)(e b:List Nat)(d:List (Bool × Nat))(H:S w.drew)(h:wpQuiet P l.toArray S (ab4 P l.toArray Q S b d) (dv l e) a)(hm:P.follows .mixedOrders=true:=by kernel_rfl)(hs:Region.noSelect l.toArray=true:=by kernel_rfl)(J:sd l.toArray e (Array.replicate l.length false)=true:=by kernel_rfl)(A:e.all (λk=>decide (k<l.length))=true:=by kernel_rfl)(L:((dv l e).all yh)=true:=by kernel_rfl)(x:uo l.toArray b (ip (Array.replicate l.length false) e)=true:=by kernel_rfl)(m:Ti l.toArray e b d=true:=by kernel_rfl)(M:Kp l.toArray d (ip (ip (Array.replicate l.length false) e) b)=true:=by kernel_rfl)(hl:e.length+(b.length+d.length)=l.length:=by kernel_rfl):(Code.region id l.toArray true).wp P Q a w:=by
 refine wp_region_noPanic (wp_region_any hm ?_);have n:=x;simp only[uo,Xxx,decide_eq_true_eq] at n;simp only[Ti,Xxx] at m;have K:∀j,(d.contains (true,j))=true->(true,j)∈d:=λj h=>by simpa using h
 have key:=Bz (Q:=NoPanic Q) (T:=λi=>d.contains (true,i)) (N:=l.toArray.size) (fuel:=b.length+d.length) (w:=w.drew) hs H (λc a a' w h=>(h:False).elim) e (dv l e) _ a J (λk F => ?_) (ni.none _ _) (Az A) L h (λa1 W y => ?_)
 .have:=Ai _ _ _ _ key;rw[hl] at this
  simpa using this
 .have q:=List.all_eq_true.1 m.1.1 k F;simp only[Xxx] at q;refine⟨by simpa using q.1,λj g => ?_⟩;have X:=List.all_eq_true.1 q.2 (true,j) (K j g)
  simpa using X
 obtain⟨D,mono,lt,step,done⟩:=W;have v:(b.filter (λr => !(ip (Array.replicate l.length false) e).getD r true))=b:=by
  rw[List.filter_eq_self];intro r u;have:=List.all_eq_true.1 n.1.1.2 r u;simp only[Xxx] at this;exact this.2
 have o:∀j∈b,(ip (Array.replicate l.length false) e).getD j true=true->False:=λj g f=>by
  have:=List.all_eq_true.1 n.1.1.2 j g;simp only[Xxx,f] at this;simp at this
 obtain⟨s,E⟩:∃s,am l.toArray b s a1=a1:=⟨_,uw a1 b⟩;have:=Xe (P:=P) (Q:=NoPanic Q) (S:=S) (T:=λi=>d.contains (true,i)) (a1:=a1) (fuel:=d.length) x (λr u=>by have:=List.all_eq_true.1 m.1.2 r u;simpa using this) mono lt step
  (λV G z B U Y=>Cn d _ _ z M (λt i p=>by
   cases t with
   | true=>simpa using p
   | false =>
    have:=List.all_eq_true.1 m.2 (false,i) p
    simpa using this) (done V G z B U Y))
  b.length (ip (Array.replicate l.length false) e) s (λ_=>[]) w.drew (by rw[v]) n.1.2 (λ_ _=>rfl) y H (λj g f=>(o j g f).elim) (λj g k F f _ _=>(o j g f).elim)
 rw[E] at this;exact this
theorem ov{P:Program}(w:World){l:Array Oper}{rest:List Oper}{o:Oper}{a:Act}{Q:Exit->Act->World->Prop}(E:o.guard=none)(s x:Operand)(t:TypeId)
  (r:o.op=Op.call { callee:=Callee.builtin Builtin.append,args:=#[s,x],argTypes:=#[t,t] }) (e:TypeId) (i:TypeInfo) (z:Value) (size bytes:Nat) (d:P.underlying t=some (.slice e)) (q:P.info? e=some i) (L:i.zero=some z) (U:i.size=size) (W:i.bytes=bytes)
  (V:z.cells.size=size) (M:0<size) (g:Nat) (hs:a.eval s = .slice (some ⟨g,0,none⟩) 0 0) (f:Option Addr) (m c:Nat) (news:List Value) (hx:a.eval x = .slice f m c) (H:news.length=m*size)
  (hc:∀ad,f=some ad->∀j u,news[j]?=some u->w.cell? (ad.add j)=some u) (J:∀u∈news,u.oneCell'=true) (p:f=none->m=0) (b1:m<=maxLen) (b2:m*bytes<=140737488355328)
  (G:m=0->wpList P l Q rest (a.put o.dst (.slice (some ⟨g,0,none⟩) 0 0)) w) (S:0<m->∀n k,k.ownsRow w.heap.size e size n m news->w.grownBy k none->wpList P l Q rest (a.put o.dst n) k) :
  wpList P l Q (o :: rest) a w:=by
 rcases Nat.eq_zero_or_pos m with v|v
 .subst v;have D:news=[]:=List.eq_nil_of_length_eq_zero (by simpa using H);subst D;have y:Src P i.size t (.slice f 0 c) 0 [] w:=by
   cases f with
   | none=>exact Src.ofNil w d c
   | some ad=>exact Src.ofSlice w d ad 0 c [] (by simp) (λj u A=>by simp at A) (λu T=>by cases T)
  have B:=run_append_nothing (P:=P) w t t o.type e i d q (some ⟨g,0,none⟩) 0 0 nlr _ y;refine wpList_plain E λK F => ?_;unfold Oper.wp;simp[execOp,r,resolve,invoke,builtin,hs,hx,B,Result.andThen];exact F _ _ (G rfl)
 cases f with
 | none=>exact absurd (p rfl) (by omega)
 | some ad =>
  refine wpList_append_grows w E s x t r e i z size bytes d q L U W V M (some ⟨g,0,none⟩) 0 0 [] hs (λh=>by cases h) (by simp) (λb _ j u A=>by simp at A) ad m c news hx H (hc ad rfl) J (by omega) (by omega) (by rw[Nat.zero_add];exact b2) (λn k d q => ?_);rw[Nat.zero_add,Xqx] at d;exact S v n k d q
def Hc(A n:Nat)(v:Value)(g:List Nat)(wk:World):Prop:=∃B,g=[B]/\v = .slice (some ⟨B,0,none⟩) n n/\A<=B/\Blk wk B 3 n (λ_ => .int .i64 0)
theorem Hc.below{A n:Nat}{v:Value}{g:List Nat}{w a:World}(h:Hc A n v g w)(c:Below w.heap.size w a):Hc A n v g a:=by
 obtain⟨B,e,d,f,b⟩:=h;exact⟨B,e,d,f,b.below c⟩
theorem Hc.lt{A n:Nat}{v:Value}{g:List Nat}{w:World}(h:Hc A n v g w):∀x∈g,x<w.heap.size:=by
 obtain⟨B,rfl,b,c,a⟩:=h;intro x hx;rw[List.mem_singleton] at hx;subst hx;exact a.lt
def Ca(A:Nat)(v:Value)(g:List Nat)(wk:World):Prop:=∃B,g=[B]/\v = .pointer (some ⟨B,0,none⟩)/\A<=B/\Blk wk B 31 7 (λ_ => .slice .none 0 0)
theorem Ca.below{A:Nat}{v:Value}{g:List Nat}{w a:World}(h:Ca A v g w)(c:Below w.heap.size w a):Ca A v g a:=by
 obtain⟨B,e,d,f,b⟩:=h;exact⟨B,e,d,f,b.below c⟩
theorem Ca.lt{A:Nat}{v:Value}{g:List Nat}{w:World}(h:Ca A v g w):∀x∈g,x<w.heap.size:=by
 obtain⟨B,rfl,b,c,a⟩:=h;intro x hx;rw[List.mem_singleton] at hx;subst hx;exact a.lt
def P9(A n:Nat)(v:Value)(g:List Nat)(wk:World):Prop:=∃B1 B2 B3,g=[]/\v = .agg #[.slice .none 0 0,.slice .none 0 0,.slice .none 0 0,.slice .none 0 0,.slice (some ⟨B1,0,none⟩) n n,.slice (some ⟨B2,0,none⟩) n n,.slice (some ⟨B3,0,none⟩) n n] /\
 (A<=B1/\Blk wk B1 3 n (λ_ => .int .i64 0))/\(A<=B2/\Blk wk B2 3 n (λ_ => .int .i64 0))/\(A<=B3/\Blk wk B3 3 n (λ_ => .int .i64 0))
theorem P9.below{A n:Nat}{v:Value}{g:List Nat}{w b:World}(h:P9 A n v g w)(a:Below w.heap.size w b):P9 A n v g b:=by
 obtain⟨f,e,i,j,c,⟨a1,d⟩,⟨b1,b2⟩,⟨c1,c2⟩⟩:=h;exact⟨f,e,i,j,c,⟨a1,d.below a⟩,⟨b1,b2.below a⟩,⟨c1,c2.below a⟩⟩
def Lg(A n:Nat)(v:Value)(g:List Nat)(wk:World):Prop:=∃B R,g=[B]/\v = .slice (some ⟨B,0,none⟩) 1 1/\A<=B/\Blk wk B 23 1 (λ_ => .slice (some ⟨R,0,none⟩) n n)/\A<=R/\Blk wk R 3 n (λ_ => .int .i64 0)
theorem Lg.below{A n:Nat}{v:Value}{g:List Nat}{w b:World}(h:Lg A n v g w)(a:Below w.heap.size w b):Lg A n v g b:=by
 obtain⟨B,R,f,c,i,e,d,j⟩:=h;exact⟨B,R,f,c,i,e.below a,d,j.below a⟩
theorem Lg.lt{A n:Nat}{v:Value}{g:List Nat}{w:World}(h:Lg A n v g w):∀x∈g,x<w.heap.size:=by
 obtain⟨B,R,rfl,b,d,a,c,e⟩:=h;intro x hx;rw[List.mem_singleton] at hx;subst hx;exact a.lt
def Fr(n:Nat)(w:World)(s:St):Prop:=∀w'':World,w.heap.size<=w''.heap.size->(∀g,n<=g->g<w.heap.size->w''.heap[g]?=w.heap[g]?)->s.At w''
theorem Fr.at{n:Nat}{w:World}{s:St}(h:Fr n w s):s.At w:=h w nlr (λ_ _ _=>rfl)
theorem Fr.below{n:Nat}{w b:World}{s:St}(h:Fr n w s)(a:Below w.heap.size w b):Fr n b s:=λc e hs=>h c (Qzx a.size e) λg f d=>(hs g f (Xzx d a.size)).trans (a.block g d)
theorem Fr.set{n:Nat}{w:World}{s:St}(h:Fr n w s){q:Nat}(e:q<n)(j:Nat)(u:Value):Fr n (w.setCell ⟨q,j,none⟩ u) s:=λa b hs=>h a (by simpa using b) λg c d=>(hs g c (by simpa using d)).trans (Below.heap_setCell w ⟨q,j,none⟩ u g (by show g≠q;omega))
theorem xd{w c:World}{base:Nat}{e:TypeId}{size:Nat}{v:Value}{n:Nat}{j:List Value}(k:w.ownsRow base e size v n j)(p:w.grownBy c v.ownBlock){q:Nat}{t:TypeId}{m:Nat}{f:Nat->Value}(h:Blk w q t m f)(g:t≠e):Blk c q t m f:=by
 refine h.grown p ?_;intro b;rcases k.2 with⟨rfl,_⟩|⟨r,l,o,rfl,_,a,i⟩
 .simp[Value.ownBlock] at b
 simp only[Value.ownBlock,Qkx] at b;subst b;obtain⟨c3,d,_⟩:=h;rw[d] at a;cases a;exact g rfl
theorem Zb{w:World}{base:Nat}{e:TypeId}{size:Nat}{v:Value}{n:Nat}{k:List Value}(l:w.ownsRow base e size v n k){q:Nat}{t:TypeId}{m:Nat}{f:Nat->Value}(r:Blk w q t m f)(i:t≠e)(j:Nat)(u:Value):(w.setCell ⟨q,j,none⟩ u).ownsRow base e size v n k:=by
 refine⟨l.1,?_⟩;rcases l.2 with h|⟨o,c,d,rfl,p,a,b⟩
 .exact .inl h
 refine .inr ⟨o,c,d,rfl,p,?_,b⟩;rw[Below.heap_setCell w ⟨q,j,none⟩ u o ?_]
 .exact a
 intro s;obtain⟨c3,g,_⟩:=r;rw[s,g] at a;cases a;exact i rfl
def DOn(A:Nat)(s:St)(v:Value)(g:List Nat)(wk:World):Prop:=∃(g0 c0:Nat) (G C:Nat->Nat),v = .slice (some ⟨g0,0,none⟩) s.on.n c0/\A<=g0/\s.on.n<=c0/\c0<=maxLen/\Blk wk g0 23 s.on.n (λi => .slice (some ⟨G i,0,none⟩) (s.on.r i).n (C i)) /\
 (∀i,i<s.on.n->A<=G i/\(s.on.r i).n<=C i/\C i<=maxLen/\Blk wk (G i) 3 (s.on.r i).n (λj => .int .i64 ((s.on.r i).z j)))/\(∀i j,i<j->j<s.on.n->G i<G j)/\g=(List.range s.on.n).map G
theorem DOn.below{A:Nat}{s:St}{v:Value}{g:List Nat}{w e:World}(h:DOn A s v g w)(d:Below w.heap.size w e):DOn A s v g e:=by
 obtain⟨k,f,G,C,j,n,c,b,m,a,o,l⟩:=h;exact⟨k,f,G,C,j,n,c,b,m.below d,λi hi=>⟨(a i hi).1,(a i hi).2.1,(a i hi).2.2.1,(a i hi).2.2.2.below d⟩,o,l⟩
theorem DOn.lt{A:Nat}{s:St}{v:Value}{g:List Nat}{w:World}(h:DOn A s v g w):∀x∈g,x<w.heap.size:=by
 obtain⟨f,d,G,C,e,k,c,a,j,b,l,rfl⟩:=h;intro x hx;obtain⟨i,hi,rfl⟩:=List.mem_map.1 hx;exact(b i (List.mem_range.1 hi)).2.2.2.lt
def DE(v:Value)(g:List Nat):Prop:=∃B:Nat,g=[]/\v = .slice (some ⟨B,0,none⟩) 0 0
def J9(A:Nat)(s:St)(v:Value)(g:List Nat)(wk:World):Prop:=g=[]/\∃x2 g2 x6 g6 x10 g10 x14 g14 x18 g18 x22 g22,v = .agg #[x2,.slice .none 0 0,x6,x10,x14,x18,x22]/\DOn A s x2 g2 wk/\DHs A 61 s.hs x6 g6 wk/\DHs A 63 s.ms x10 g10 wk /\
 ka A s.si x14 g14 wk/\ka A s.so x18 g18 wk/\ka A s.sf x22 g22 wk/\(∀x∈g2,x ∉ g14)/\(∀x∈g2,x ∉ g18)/\(∀x∈g2,x ∉ g22)/\(∀x∈g14,x ∉ g18)/\(∀x∈g14,x ∉ g22)/\(∀x∈g18,x ∉ g22)
theorem J9.below{A:Nat}{s:St}{v:Value}{g:List Nat}{w p:World}(h:J9 A s v g w)(i:Below w.heap.size w p):J9 A s v g p:=by
 obtain⟨B,x,y,D,z,t,o,l,m,q,j,k,n,u,a,b,c,d,e,f,r⟩:=h;exact⟨B,x,y,D,z,t,o,l,m,q,j,k,n,u,a.below i,b.below i,c.below i,d.below i,e.below i,f.below i,r⟩
theorem ju.grownO{A B:Nat}{w a:World}{r:Rw}{e:TypeId}{size:Nat}{v:Value}{n:Nat}{d:List Value}(h:ju A w r)(f:w.ownsRow B e size v n d)(l:w.grownBy a v.ownBlock)(b:3≠e):ju A a r:=by
 obtain⟨g,k,j,c,m,i⟩:=h;exact⟨g,k,j,c,m,xd f l i b⟩
theorem cy.grownO{A B:Nat}{t:TypeId}{w a:World}{s:Hs}{e:TypeId}{size:Nat}{v:Value}{n:Nat}{i:List Value}(h:cy A t w s)(j:w.ownsRow B e size v n i)(p:w.grownBy a v.ownBlock)(b:t≠e):cy A t a s:=by
 obtain⟨d,q,m,f⟩:=h;refine⟨d,q,m,λk => ?_⟩;obtain⟨g,o,c,l⟩:=f k;exact⟨g,o,c,xd j p l b⟩
theorem fo.grownO{A B:Nat}{t:TypeId}{w i:World}{k c:Nat}{a:Option Addr}{e:TypeId}{size:Nat}{v:Value}{n:Nat}{m:List Value}(h:fo A w t k a c)(o:w.ownsRow B e size v n m)(r:w.grownBy i v.ownBlock)(j:t≠e):fo A i t k a c:=by
 refine h.same λg cur b=>r.block g (Qkq b).1 λf => ?_;rcases o.2 with⟨rfl,_⟩|⟨s,p,q,rfl,_,d,l⟩
 .simp[Value.ownBlock] at f
 simp only[Value.ownBlock,Qkx] at f;subst f;rw[b] at d;cases d;exact j rfl
theorem ai.grownO{A B:Nat}{w d:World}{s:St}{size:Nat}{v:Value}{n:Nat}{j:List Value}(h:ai A w s)(q:s.os.n=0)(e:s.os.c=0)(a:w.ownsRow B 57 size v n j)(b:w.grownBy d v.ownBlock):ai A d s:=by
 refine⟨?_,λi hi=>(h.rows i hi).grownO a b (by decide),h.rapart,⟨h.os.le,h.os.cap,λk=>absurd k (by omega),λi hi=>absurd hi (by omega),h.os.apart,Or.inl e⟩,h.hs.grownO a b (by decide),h.ms.grownO a b (by decide),h.msr.grownO a b (by decide),h.si.grownO a b (by decide),h.so.grownO a b (by decide),h.sf.grownO a b (by decide),h.aio,h.aif,h.aof,h.ari⟩;obtain⟨g,o,m,f,p,l⟩:=h.on;exact⟨g,o,m,f,p,xd a b l (by decide)⟩
theorem ai.below{A:Nat}{w b:World}{s:St}(h:ai A w s)(a:Below w.heap.size w b):ai A b s:=by
 refine⟨?_,λi hi=>(h.rows i hi).below a,h.rapart,h.os.below a,h.hs.below a,h.ms.below a,h.msr.below a,h.si.below a,h.so.below a,h.sf.below a,h.aio,h.aif,h.aof,h.ari⟩;obtain⟨g,e,d,c,j,f⟩:=h.on;exact⟨g,e,d,c,j,f.below a⟩
def Lf(A:Nat)(s:St)(Ls:Nat->Od)(i:Nat)(wk:World):Prop:=(Ls i).k=(s.os.z i).k/\(Ls i).ls.n=(s.os.z i).ls.n/\(∀j,j<(s.os.z i).ls.n->(Ls i).ls.z j=(s.os.z i).ls.z j)/\∃B,(Ls i).ls.a=some ⟨B,0,none⟩/\A<=B/\(Ls i).ls.n<=(Ls i).ls.c/\(Ls i).ls.c<=maxLen/\Blk wk B 59 ((Ls i).ls.n*4) (λj=>(ax (Ls i).ls.n (Ls i).ls.z).getD j default)
def Yf(A A0:Nat)(s s0:St)(BX k:Nat)(wk:World):Prop:=∃(v:Value) (Ls:Nat->Od),Blk wk BX 31 7 (λj=>(#[.slice s0.on.a s0.on.n s0.on.c,v,.slice s0.hs.a s0.hs.n s0.hs.c,.slice s0.ms.a s0.ms.n s0.ms.c,.slice s0.si.a s0.si.n s0.si.c,.slice s0.so.a s0.so.n s0.so.c,.slice s0.sf.a s0.sf.n s0.sf.c]:Array Value).getD j default) /\
 wk.ownsRow A0 57 2 v k (jh k Ls)/\(∀i,i<k->Lf A s Ls i wk)/\(∀i j,i<j->j<k->(Ls i).ls.a≠(Ls j).ls.a)/\ai A wk s0
def D16(A:Nat)(x:Od)(v:Value)(g:List Nat)(wk:World):Prop:=∃s':Hs,g=[]/\v = .agg #[.int .i64 x.k,.slice s'.a s'.n s'.c]/\pj A 59 x.ls wk s'
theorem D16.below{A:Nat}{x:Od}{v:Value}{g:List Nat}{w b:World}(h:D16 A x v g w)(a:Below w.heap.size w b):D16 A x v g b:=by
 obtain⟨i,d,k,c,e,f,j⟩:=h;exact⟨i,d,k,c,e,f.below a,j.below a⟩
def D17(A:Nat)(x:Od)(v:Value)(g:List Nat)(wk:World):Prop:=∃(B:Nat) (s':Hs),g=[]/\v = .slice (some ⟨B,0,none⟩) 1 1/\A<=B/\Blk wk B 57 2 (λj=>(#[.int .i64 x.k,.slice s'.a s'.n s'.c]:Array Value).getD j default)/\pj A 59 x.ls wk s'
theorem D17.below{A:Nat}{x:Od}{v:Value}{g:List Nat}{w b:World}(h:D17 A x v g w)(a:Below w.heap.size w b):D17 A x v g b:=by
 obtain⟨B,f,d,l,j,e,m,i,k,c⟩:=h;exact⟨B,f,d,l,j,e.below a,m,i,k.below a,c.below a⟩
theorem Bb{A B:Nat}{e:TypeId}{s:Hs}{w:World}{v:Value}(r:0<s.n)(d:w.ownsRow B e 4 v s.n (ax s.n s.z))(f:A<=B):∃b:Hs,v = .slice b.a b.n b.c/\pj A e s w b:=by
 have q:v ≠ .slice none 0 0:=by
  rintro rfl;rcases d.2 with⟨_,u⟩|⟨t,p,l,h,_⟩
  .omega
  cases h
 obtain⟨b,g,o,k,i,m⟩:=cy.ofOwns d q;exact⟨b,g,o,λj _=>by rw[k],i.mono f,m.mono f⟩
theorem Jo{A:Nat}{e:TypeId}{s:Hs}{w:World}(B:Nat)(a:s.n=0):pj A e s w ⟨some ⟨B,0,none⟩,0,0,s.z⟩:=⟨a.symm,λj b=>rfl,⟨Nat.le_refl _,Qxz _,(λh=>by cases h),λh=>absurd h (Nat.lt_irrefl _)⟩,Or.inl rfl⟩
theorem Jc{s:Hs}{w:World}(h:s.At w):∀f,s.a=some f->∀j u,(ax s.n s.z)[j]?=some u->w.cell? (f.add j)=some u:=λf i j u g=>by
 have d:=(List.getElem?_eq_some_iff.1 g).1;rw[ep] at d;have c:=h.hds;obtain⟨b,o,e,k,-⟩:=c 0 (by omega);rw[i] at e;simp only[Qkx] at e;subst e;rw[i] at c;exact jb.news c j u g
theorem Nl{s:Hs}{w:World}(h:s.At w)(b:s.a=none):s.n=0:=by
 have:=h.nilc b;have:=h.le;omega
theorem H7{A B:Nat}{r:Rw}{w:World}{v:Value}(p:0<r.n)(a:w.ownsRow B 3 1 v r.n ((List.range r.n).map λj=>Value.int .i64 (r.z j)))(o:A<=B):∃g c,v = .slice (some ⟨g,0,none⟩) r.n c/\B<=g/\ka A r v [g] w:=by
 have m:v ≠ .slice none 0 0:=by
  rintro rfl;rcases a.2 with⟨_,s⟩|⟨q,l,i,h,_⟩
  .omega
  cases h
 obtain⟨g,c,rfl,d,k,f,b⟩:=Blk.ofOwns a m;rw[Nat.mul_one] at b;exact⟨g,c,rfl,f,g,c,rfl,rfl,by omega,d,k,b.congr (λj e=>by simp[e])⟩
theorem Nu{r:Rw}{w:World}(h:r.At w):∀f,r.a=some f->∀j u,((List.range r.n).map λj=>Value.int .i64 (r.z j))[j]?=some u->w.cell? (f.add j)=some u:=λf g j u e=>by
 have c:j<r.n:=by
  have:=(List.getElem?_eq_some_iff.1 e).1
  simpa using this
 obtain⟨b,o,d,i,hc⟩:=h.ints j c;rw[g] at d;simp only[Qkx] at d;subst d;rw[Go.WideShapes.add_plain,hc];simp[c] at e;rw[e]
theorem Nv{r:Rw}{w:World}(h:r.At w)(e:r.a=none):r.n=0:=by
 rcases Nat.eq_zero_or_pos r.n with c|c
 .exact c
 obtain⟨b,o,d,_⟩:=h.ints 0 c;rw[e] at d;cases d
theorem ny(p:Pl)(s:St)(w:World)(hs:s.At w)(f:cv p s):
  Calls prog 20 #[s.val] w λe w'=>∃H:St,e = .returned H.val/\ae H s/\ai w.heap.size w' H/\Below w.heap.size w w':=by
 obtain⟨W0,hW,bg,X0,Z0⟩:∃W,((w.alloc (.cells s.cells 31)).alloc (.cells #[.slice .none 0 0,.slice .none 0 0,.slice .none 0 0,.slice .none 0 0,.slice .none 0 0,.slice .none 0 0,.slice .none 0 0] 31))=W/\Below w.heap.size w W/\Blk W w.heap.size 31 7 (λj=>s.cells.getD j default)/\Blk W (w.heap.size+1) 31 7 (λ_ => .slice .none 0 0):=
  ⟨_,rfl,js _ _ _,(Blk.mk' rfl rfl).alloc _,(Blk.mk' (cur:=#[.slice .none 0 0,.slice .none 0 0,.slice .none 0 0,.slice .none 0 0,.slice .none 0 0,.slice .none 0 0,.slice .none 0 0]) (by simp) rfl).congr (λj y=>by match j,y with|0,_=>rfl|1,_=>rfl|2,_=>rfl|3,_=>rfl|4,_=>rfl|5,_=>rfl|6,_=>rfl)⟩
 have HW:Hid ((w.alloc (.cells #[.slice s.on.a s.on.n s.on.c,.slice s.os.a s.os.n s.os.c,.slice s.hs.a s.hs.n s.hs.c,.slice s.ms.a s.ms.n s.ms.c,.slice s.si.a s.si.n s.si.c,.slice s.so.a s.so.n s.so.c,.slice s.sf.a s.sf.n s.sf.c] 31)).alloc (.cells #[.slice .none 0 0,.slice .none 0 0,.slice .none 0 0,.slice .none 0 0,.slice .none 0 0,.slice .none 0 0,.slice .none 0 0] 31)=W0):=hW;have HS:=hid (hs.below bg);have HF:=hid f;have HC:Hid (∀l,Below W0.heap.size W0 l->Boxed l w.heap.size s/\Blk l (w.heap.size+1) 31 7 (λ_ => .slice .none 0 0)/\s.At l/\Below w.heap.size w l):=λl h=>⟨Boxed.of (X0.below h),Z0.below h,(hs.below bg).below h,bg.trans (h.mono bg.size)⟩;have hy:=bg.size;have ih:=Z0.lt;have ns1:=f.sh.pl.ns1;have ns3:=f.sh.pl.ns3;have iq:=f.hs72;have ms8:=f.ms8;obtain⟨l1,X,c1,c2,c3,c4,c5,c6⟩:=Boxed.of X0;have r0:=Qqq X;have r2:=Qqq c2;have r3:=Qqq c3;have r4:=Qqq c4;have r5:=Qqq c5;have r6:=Qqq c6;obtain⟨iI,hI,ch,cl,cb⟩:=info_parts Ex;obtain⟨iH,hH,e0,gc,fk⟩:=info_parts H6;obtain⟨iM,hM,ey,ev,e9⟩:=info_parts Ox;obtain⟨iL,hL,gv,e5,fu⟩:=info_parts Dt;obtain⟨iO,hO,e3,eu,gd⟩:=info_parts Cg;clear hW X0 Z0 hs f X c1 c2 c3 c4 c5 c6;unfold St.val;go_enter func20,ntmps20;go_wp2_with fail;rw[HW.out];refine tc (λw'=>∃p:Regrown,w'=grow (redrawn W0 p.d) p.os) [0,1,4,5,8,9,12,13,16,17,20,21] [2,3,6,7,10,11,14,15,18,19,22,23,24] [(false,25)] (Qqx (brf.drew)) ?_;simp only[dv,Qyq,Xqq,Qyx,Qyz,Xqz,Xqx]
 repeat(go_big_quiet_step(fail))
 refine Qqz ?_;clear r0 r2 r3 r4 r5 r6;refine⟨λj v g l=>match j with|2=>DOn w.heap.size s v g l|6=>DHs w.heap.size 61 s.hs v g l|10=>DHs w.heap.size 63 s.ms v g l|14=>ka w.heap.size s.si v g l|18=>ka w.heap.size s.so v g l|22=>ka w.heap.size s.sf v g l|23=>J9 w.heap.size s v g l|24=>Ca W0.heap.size v g l|_=>DE v g,
  ?zmono,?zlow,?zstep,?zdone⟩
 case zmono =>
  intro j y v g w w' hB h;simp only[List.mem_cons,List.not_mem_nil,or_false] at y;rcases y with rfl|rfl|rfl|rfl|rfl|rfl|rfl|rfl|rfl|rfl|rfl|rfl|rfl
  .exact DOn.below h hB
  .exact h
  .exact DHs.below h hB
  .exact h
  .exact DHs.below h hB
  .exact h
  .exact ka.below h hB
  .exact h
  .exact ka.below h hB
  .exact h
  .exact ka.below h hB
  .exact J9.below h hB
  exact Ca.below h hB
 case zlow =>
  intro j y v g w h;simp only[List.mem_cons,List.not_mem_nil,or_false] at y;rcases y with rfl|rfl|rfl|rfl|rfl|rfl|rfl|rfl|rfl|rfl|rfl|rfl|rfl
  .exact DOn.lt h
  .obtain⟨_,P,_⟩:=h;rw[P];intro x hx;simp at hx
  .obtain⟨_,P,_⟩:=h;rw[P];intro x hx;simp at hx
  .obtain⟨_,P,_⟩:=h;rw[P];intro x hx;simp at hx
  .obtain⟨_,P,_⟩:=h;rw[P];intro x hx;simp at hx
  .obtain⟨_,P,_⟩:=h;rw[P];intro x hx;simp at hx
  .exact ka.lt h
  .obtain⟨_,P,_⟩:=h;rw[P];intro x hx;simp at hx
  .exact ka.lt h
  .obtain⟨_,P,_⟩:=h;rw[P];intro x hx;simp at hx
  .exact ka.lt h
  .obtain⟨P,_⟩:=h;rw[P];intro x hx;simp at hx
  exact Ca.lt h
 case zstep =>
  intro i hi;simp only[List.mem_cons,List.not_mem_nil,or_false] at hi;rcases hi with rfl|rfl|rfl|rfl|rfl|rfl|rfl|rfl|rfl|rfl|rfl|rfl|rfl
  .intro V G l K t hd J o;have m:=af t;have q:=m.size;refine ay 2 rfl ?_;simp only[am,bu,Qvz,Qwq,Qvx,Act.put,Qvq,Qwx,Qwz] at o ⊢;go_wp2_with fail;refine(Xk s.on l (HS.out.on.below m) (by rw[HF.out.sh.n];exact HF.out.sh.pl.nb6) (by rw[HF.out.sh.n];exact HF.out.sh.pl.nb1) (λi hi=>by rw[HF.out.sh.len i hi];exact⟨ns1,ns3⟩)).mono ?_;rintro e w2 ⟨g0,X,Gr,Cr,rfl,a1,bp,be,a2,a3,a4,dg⟩;go_wp2_with fail;refine o _ ((List.range s.on.n).map Gr) _ (Qqx (m.trans (dg.mono m.size))) dg (λx hx => ?_) ⟨g0,X,Gr,Cr,rfl,by omega,bp,be,a2,λi hi=>⟨by have:=(a3 i hi).1;omega,(a3 i hi).2⟩,a4,rfl⟩;obtain⟨i,hi,rfl⟩:=List.mem_map.1 hx;exact(a3 i (List.mem_range.1 hi)).1
  .intro V G l K t hd J o;have m:=af t;refine ay 3 rfl ?_;simp only[am,bu,Qvz,Qwq,Qvx,Act.put,Qvq,Qwx,Qwz] at o ⊢;go_wp2_with fail;exact o _ [] _ (Qqx (m.alloc m.size _)) (brf.alloc nlr _) (λx hx=>by simp at hx) ⟨l.heap.size,rfl,rfl⟩
  .intro V G l K t hd J o;have m:=af t;have q:=m.size;obtain⟨B,-,h3⟩:DE (V 3) (G 3):=hd 3 (Qjz (by kernel_rfl)) (by simp);refine ay 6 rfl ?_;simp only[am,bu,Qvz,Qwq,Qvx,Act.put,Qvq,Qwx,Qwz,h3] at o ⊢;go_wp2_with(at_builtin;refine ov l rfl (.tmp 8) (.tmp 10) 28 rfl 61 iH (.agg #[.int .i64 0,.int .i64 0,.int .i64 0,.int .i64 0]) 4 32 underlying28 hH e0 gc fk rfl (by decide) B rfl s.hs.a s.hs.n s.hs.c (ax s.hs.n s.hs.z) rfl (by rw[ep]) (Jc (HS.out.hs.below m)) (ma _ _) (Nl (HS.out.hs.below m)) (by unfold maxLen;omega) (by omega) ?_ ?_)
   .intro F;exact mj (o _ [] _ t brf (λx hx=>by simp at hx) ⟨⟨some ⟨B,0,none⟩,0,0,s.hs.z⟩,rfl,rfl,Jo B F⟩)
   intro F v' w1 S E;have M:Below l.heap.size l w1:=(Below.refl _ l).grown E nlr (by intro k hk;cases hk);obtain⟨H,rfl,hc⟩:=Bb (A:=w.heap.size) F S (by omega);exact mj (o _ [] _ (Qqx (m.trans (M.mono m.size))) M (λx hx=>by simp at hx) ⟨H,rfl,rfl,hc⟩)
  .intro V G l K t hd J o;have m:=af t;refine ay 7 rfl ?_;simp only[am,bu,Qvz,Qwq,Qvx,Act.put,Qvq,Qwx,Qwz] at o ⊢;go_wp2_with fail;exact o _ [] _ (Qqx (m.alloc m.size _)) (brf.alloc nlr _) (λx hx=>by simp at hx) ⟨l.heap.size,rfl,rfl⟩
  .intro V G l K t hd J o;have m:=af t;have q:=m.size;obtain⟨B,-,h3⟩:DE (V 7) (G 7):=hd 7 (Qjz (by kernel_rfl)) (by simp);refine ay 10 rfl ?_;simp only[am,bu,Qvz,Qwq,Qvx,Act.put,Qvq,Qwx,Qwz,h3] at o ⊢;go_wp2_with(at_builtin;refine ov l rfl (.tmp 12) (.tmp 14) 29 rfl 63 iM (.agg #[.int .i64 0,.int .i64 0,.int .i64 0,.int .i64 0]) 4 32 underlying29 hM ey ev e9 rfl (by decide) B rfl s.ms.a s.ms.n s.ms.c (ax s.ms.n s.ms.z) rfl (by rw[ep]) (Jc (HS.out.ms.below m)) (ma _ _) (Nl (HS.out.ms.below m)) (by unfold maxLen;omega) (by omega) ?_ ?_)
   .intro F;exact mj (o _ [] _ t brf (λx hx=>by simp at hx) ⟨⟨some ⟨B,0,none⟩,0,0,s.ms.z⟩,rfl,rfl,Jo B F⟩)
   intro F v' w1 S E;have M:Below l.heap.size l w1:=(Below.refl _ l).grown E nlr (by intro k hk;cases hk);obtain⟨H,rfl,hc⟩:=Bb (A:=w.heap.size) F S (by omega);exact mj (o _ [] _ (Qqx (m.trans (M.mono m.size))) M (λx hx=>by simp at hx) ⟨H,rfl,rfl,hc⟩)
  .intro V G l K t hd J o;have m:=af t;refine ay 11 rfl ?_;simp only[am,bu,Qvz,Qwq,Qvx,Act.put,Qvq,Qwx,Qwz] at o ⊢;go_wp2_with fail;exact o _ [] _ (Qqx (m.alloc m.size _)) (brf.alloc nlr _) (λx hx=>by simp at hx) ⟨l.heap.size,rfl,rfl⟩
  .intro V G l K t hd J o;have m:=af t;have q:=m.size;obtain⟨B,-,h3⟩:DE (V 11) (G 11):=hd 11 (Qjz (by kernel_rfl)) (by simp);have HN:=hid HF.out.sin;refine ay 14 rfl ?_;simp only[am,bu,Qvz,Qwq,Qvx,Act.put,Qvq,Qwx,Qwz,h3] at o ⊢;go_wp2_with(at_builtin;refine ov l rfl (.tmp 16) (.tmp 18) 23 rfl 3 iI (.int .i64 0) 1 8 underlying23 hI ch cl cb rfl (by decide) B rfl s.si.a s.si.n s.si.c ((List.range s.si.n).map λj=>Value.int .i64 (s.si.z j)) rfl (by simp) (Nu (HS.out.si.below m)) (λu hu=>by obtain⟨x,_,rfl⟩:=List.mem_map.1 hu;rfl) (Nv (HS.out.si.below m)) (by rw[HN.out];unfold maxLen;omega) (by rw[HN.out];omega) ?_ ?_)
   .intro F;exact absurd F (by rw[HN.out];omega)
   intro F v' w1 S E;have M:Below l.heap.size l w1:=(Below.refl _ l).grown E nlr (by intro k hk;cases hk);obtain⟨gi,ci,rfl,d0,bi⟩:=H7 (A:=w.heap.size) F S (by omega);exact mj (o _ [gi] _ (Qqx (m.trans (M.mono m.size))) M (λx hx=>by rw[List.mem_singleton] at hx;omega) bi)
  .intro V G l K t hd J o;have m:=af t;refine ay 15 rfl ?_;simp only[am,bu,Qvz,Qwq,Qvx,Act.put,Qvq,Qwx,Qwz] at o ⊢;go_wp2_with fail;exact o _ [] _ (Qqx (m.alloc m.size _)) (brf.alloc nlr _) (λx hx=>by simp at hx) ⟨l.heap.size,rfl,rfl⟩
  .intro V G l K t hd J o;have m:=af t;have q:=m.size;obtain⟨B,-,h3⟩:DE (V 15) (G 15):=hd 15 (Qjz (by kernel_rfl)) (by simp);have HN:=hid HF.out.son;refine ay 18 rfl ?_;simp only[am,bu,Qvz,Qwq,Qvx,Act.put,Qvq,Qwx,Qwz,h3] at o ⊢;go_wp2_with(at_builtin;refine ov l rfl (.tmp 20) (.tmp 22) 23 rfl 3 iI (.int .i64 0) 1 8 underlying23 hI ch cl cb rfl (by decide) B rfl s.so.a s.so.n s.so.c ((List.range s.so.n).map λj=>Value.int .i64 (s.so.z j)) rfl (by simp) (Nu (HS.out.so.below m)) (λu hu=>by obtain⟨x,_,rfl⟩:=List.mem_map.1 hu;rfl) (Nv (HS.out.so.below m)) (by rw[HN.out];unfold maxLen;omega) (by rw[HN.out];omega) ?_ ?_)
   .intro F;exact absurd F (by rw[HN.out];omega)
   intro F v' w1 S E;have M:Below l.heap.size l w1:=(Below.refl _ l).grown E nlr (by intro k hk;cases hk);obtain⟨gi,ci,rfl,d0,bi⟩:=H7 (A:=w.heap.size) F S (by omega);exact mj (o _ [gi] _ (Qqx (m.trans (M.mono m.size))) M (λx hx=>by rw[List.mem_singleton] at hx;omega) bi)
  .intro V G l K t hd J o;have m:=af t;refine ay 19 rfl ?_;simp only[am,bu,Qvz,Qwq,Qvx,Act.put,Qvq,Qwx,Qwz] at o ⊢;go_wp2_with fail;exact o _ [] _ (Qqx (m.alloc m.size _)) (brf.alloc nlr _) (λx hx=>by simp at hx) ⟨l.heap.size,rfl,rfl⟩
  .intro V G l K t hd J o;have m:=af t;have q:=m.size;obtain⟨B,-,h3⟩:DE (V 19) (G 19):=hd 19 (Qjz (by kernel_rfl)) (by simp);have HN:=hid HF.out.sfn;refine ay 22 rfl ?_;simp only[am,bu,Qvz,Qwq,Qvx,Act.put,Qvq,Qwx,Qwz,h3] at o ⊢;go_wp2_with(at_builtin;refine ov l rfl (.tmp 24) (.tmp 26) 23 rfl 3 iI (.int .i64 0) 1 8 underlying23 hI ch cl cb rfl (by decide) B rfl s.sf.a s.sf.n s.sf.c ((List.range s.sf.n).map λj=>Value.int .i64 (s.sf.z j)) rfl (by simp) (Nu (HS.out.sf.below m)) (λu hu=>by obtain⟨x,_,rfl⟩:=List.mem_map.1 hu;rfl) (Nv (HS.out.sf.below m)) (by rw[HN.out];unfold maxLen;omega) (by rw[HN.out];omega) ?_ ?_)
   .intro F;exact absurd F (by rw[HN.out];omega)
   intro F v' w1 S E;have M:Below l.heap.size l w1:=(Below.refl _ l).grown E nlr (by intro k hk;cases hk);obtain⟨gi,ci,rfl,d0,bi⟩:=H7 (A:=w.heap.size) F S (by omega);exact mj (o _ [gi] _ (Qqx (m.trans (M.mono m.size))) M (λx hx=>by rw[List.mem_singleton] at hx;omega) bi)
  rotate_left
  .intro V G l K t hd J o;have m:=af t;refine ay 24 rfl ?_;simp only[am,bu,Qvz,Qwq,Qvx,Act.put,Qvq,Qwx,Qwz] at o ⊢;go_wp2_with fail;exact o _ [l.heap.size] _ (Qqx (m.alloc m.size _)) (brf.alloc nlr _) (λx hx=>by rw[List.mem_singleton] at hx;omega) ⟨l.heap.size,rfl,rfl,m.size,(Blk.mk' (cur:=#[.slice .none 0 0,.slice .none 0 0,.slice .none 0 0,.slice .none 0 0,.slice .none 0 0,.slice .none 0 0,.slice .none 0 0]) rfl rfl).congr (λj y=>by match j,y with|0,_=>rfl|1,_=>rfl|2,_=>rfl|3,_=>rfl|4,_=>rfl|5,_=>rfl|6,_=>rfl)⟩
  intro V G l K t hd J o;have e2:DOn w.heap.size s (V 2) (G 2) l:=hd 2 (Qjz (by kernel_rfl)) (by simp);have e6:DHs w.heap.size 61 s.hs (V 6) (G 6) l:=hd 6 (Qjz (by kernel_rfl)) (by simp);have d7:DHs w.heap.size 63 s.ms (V 10) (G 10) l:=hd 10 (Qjz (by kernel_rfl)) (by simp);have dy:ka w.heap.size s.si (V 14) (G 14) l:=hd 14 (Qjz (by kernel_rfl)) (by simp);have dl:ka w.heap.size s.so (V 18) (G 18) l:=hd 18 (Qjz (by kernel_rfl)) (by simp);have ec:ka w.heap.size s.sf (V 22) (G 22) l:=hd 22 (Qjz (by kernel_rfl)) (by simp);have HD:Hid (J9 w.heap.size s (.agg #[V 2,.slice .none 0 0,V 6,V 10,V 14,V 18,V 22]) [] l):=⟨rfl,V 2,G 2,V 6,G 6,V 10,G 10,V 14,G 14,V 18,G 18,V 22,G 22,rfl,e2,e6,d7,dy,dl,ec,J 2 (Qjz (by kernel_rfl)) 14 (Qjz (by kernel_rfl)) (by simp) (by simp) (by decide),J 2 (Qjz (by kernel_rfl)) 18 (Qjz (by kernel_rfl)) (by simp) (by simp) (by decide),J 2 (Qjz (by kernel_rfl)) 22 (Qjz (by kernel_rfl)) (by simp) (by simp) (by decide),J 14 (Qjz (by kernel_rfl)) 18 (Qjz (by kernel_rfl)) (by simp) (by simp) (by decide),J 14 (Qjz (by kernel_rfl)) 22 (Qjz (by kernel_rfl)) (by simp) (by simp) (by decide),J 18 (Qjz (by kernel_rfl)) 22 (Qjz (by kernel_rfl)) (by simp) (by simp) (by decide)⟩;obtain⟨g0,X,Gr,Cr,v2,-⟩:=e2;obtain⟨D,-,v6,-⟩:=e6;obtain⟨m',-,de,-⟩:=d7;obtain⟨T,k1,-,d8,-⟩:=dy;obtain⟨U,k2,-,dp,-⟩:=dl;obtain⟨B3,k3,-,ds,-⟩:=ec;have ca:=HD.out;rw[v2,v6,de,d8,dp,ds] at ca;have fa:=hid ca;clear HD ca J hd;refine ay 23 rfl ?_;simp only[am,bu,Qvz,Qwq,Qvx,Act.put,Qvq,Qwx,Qwz,v2,v6,de,d8,dp,ds] at o ⊢;go_wp2_with fail;exact o _ [] _ t brf (λx hx=>by simp at hx) fa.out
 case zdone =>
  intro V G l t hD J;obtain⟨-,x2,g2,x6,g6,ie,ik,ic,it,ip,il,ir,io,c9,⟨g0,X,Gr,Cr,rfl,a1,bp,be,a2,a3,a4,rfl⟩,⟨D,-,rfl,d1,d2,d3,-⟩,⟨m',-,rfl,f1,f2,f3,f4⟩,⟨T,k1,rfl,rfl,i1,i2,i3,i4⟩,⟨U,k2,rfl,rfl,j1,j2,j3,j4⟩,⟨B3,k3,rfl,rfl,l2,l3,l4,l5⟩,n1,n2,n3,n4,n5,n6⟩:J9 w.heap.size s (V 23) (G 23) l:=hD 23 (by simp);obtain⟨BX,-,dm,mX,Q⟩:Ca W0.heap.size (V 24) (G 24) l:=hD 24 (by simp);have m:=af t;have dr:T≠U:=λe=>n4 T (by simp) (by rw[e];simp);have da:T≠B3:=λe=>n5 T (by simp) (by rw[e];simp);have dt:U≠B3:=λe=>n6 U (by simp) (by rw[e];simp);have nr:∀i,i<s.on.n->Gr i≠T/\Gr i≠U/\Gr i≠B3:=λi hi=>by
   have hm:Gr i∈(List.range s.on.n).map Gr:=List.mem_map.2 ⟨i,List.mem_range.2 hi,rfl⟩;exact⟨λe=>n1 _ hm (by rw[e];simp),λe=>n2 _ hm (by rw[e];simp),λe=>n3 _ hm (by rw[e];simp)⟩
  have HR:Hid (ai w.heap.size l ⟨⟨some ⟨g0,0,none⟩,s.on.n,X,λi=>⟨some ⟨Gr i,0,none⟩,(s.on.r i).n,Cr i,(s.on.r i).z⟩⟩,⟨none,0,0,λ_=>⟨0,⟨none,0,0,λ_=>⟨0,0,0,0⟩⟩⟩⟩,D,m',⟨some ⟨T,0,none⟩,s.si.n,k1,s.si.z⟩,⟨some ⟨U,0,none⟩,s.so.n,k2,s.so.z⟩,⟨some ⟨B3,0,none⟩,s.sf.n,k3,s.sf.z⟩⟩):=by
   refine⟨⟨g0,rfl,a1,bp,be,a2⟩,λi hi=>⟨Gr i,rfl,(a3 i hi).1,(a3 i hi).2.1,(a3 i hi).2.2.1,(a3 i hi).2.2.2⟩,λi j bn y => ?_,⟨Nat.le_refl _,Qxz _,λh=>absurd h (Nat.lt_irrefl _),λi hi=>absurd hi (Qzq _),λi j _ y=>absurd y (Qzq _),Or.inl rfl⟩,d3,f3,f4,⟨T,rfl,i1,i2,i3,i4⟩,⟨U,rfl,j1,j2,j3,j4⟩,⟨B3,rfl,l2,l3,l4,l5⟩,?_,?_,?_,λi hi => ?_⟩
   .have:=a4 i j bn y;simp only[ne_eq,Qkx,Qkz,and_true];omega
   .intro e;simp only[Qkx,Qkz,and_true] at e;exact dr e
   .intro e;simp only[Qkx,Qkz,and_true] at e;exact da e
   .intro e;simp only[Qkx,Qkz,and_true] at e;exact dt e
   obtain⟨x1,x2,x3⟩:=nr i hi;exact⟨λe=>by simp only[Qkx,Qkz,and_true] at e;exact x1 e,λe=>by simp only[Qkx,Qkz,and_true] at e;exact x2 e,λe=>by simp only[Qkx,Qkz,and_true] at e;exact x3 e⟩
  have db:Hid ((D.n=s.hs.n/\∀j,j<D.n->D.z j=s.hs.z j)/\(m'.n=s.ms.n/\∀j,j<m'.n->m'.z j=s.ms.z j)):=⟨⟨d1,λj y=>d2 j (by rw[<-d1];exact y)⟩,⟨f1,λj y=>f2 j (by rw[<-f1];exact y)⟩⟩;clear hD J a1 bp be a2 a3 a4 d1 d2 d3 f1 f2 f3 f4 i1 i2 i3 i4 j1 j2 j3 j4 l2 l3 l4 l5 n1 n2 n3 n4 n5 n6 dr da dt nr t;have cj:=hid Q;have xl:=Q.lt;have b7:=Q.frozen 0;have ck:=Q.k 0;have d6:=Q.frozen 1;have zc1:=Q.k 1;have dc:=Q.frozen 2;have zc2:=Q.k 2;have eb:=Q.frozen 3;have zc3:=Q.k 3;have c8:=Q.frozen 4;have zc4:=Q.k 4;have d5:=Q.frozen 5;have zc5:=Q.k 5;have dd:=Q.frozen 6;have dh:=Q.k 6;clear Q;simp only[am,bu,Qvz,Qwq,Qvx,Act.put,Qvq,Qwx,Qwz,c9,dm];refine dj 25 rfl ?_;go_wp2_with fail;have KZ:=rq cj.out (.slice (some ⟨g0,0,none⟩) s.on.n X) (.slice .none 0 0) (.slice D.a D.n D.c) (.slice m'.a m'.n m'.c) (.slice (some ⟨T,0,none⟩) s.si.n k1) (.slice (some ⟨U,0,none⟩) s.so.n k2) (.slice (some ⟨B3,0,none⟩) s.sf.n k3);have hb:=nf m mX (.slice (some ⟨g0,0,none⟩) s.on.n X) (.slice .none 0 0) (.slice D.a D.n D.c) (.slice m'.a m'.n m'.c) (.slice (some ⟨T,0,none⟩) s.si.n k1) (.slice (some ⟨U,0,none⟩) s.so.n k2) (.slice (some ⟨B3,0,none⟩) s.sf.n k3);have ba:=ai.set7 HR.out cj.out (.slice (some ⟨g0,0,none⟩) s.on.n X) (.slice .none 0 0) (.slice D.a D.n D.c) (.slice m'.a m'.n m'.c) (.slice (some ⟨T,0,none⟩) s.si.n k1) (.slice (some ⟨U,0,none⟩) s.so.n k2) (.slice (some ⟨B3,0,none⟩) s.sf.n k3);unfold set7 at KZ hb ba
  generalize (((((((l.setCell { block:=BX,off:=0 } (Value.slice (some { block:=g0,off:=0 }) s.on.n X)).setCell { block:=BX,off:=1 } (Value.slice none 0 0)).setCell { block:=BX,off:=2 } (Value.slice D.a D.n D.c)).setCell { block:=BX,off:=3 } (Value.slice m'.a m'.n m'.c)).setCell { block:=BX,off:=4 } (Value.slice (some { block:=T,off:=0 }) s.si.n k1)).setCell { block:=BX,off:=5 } (Value.slice (some { block:=U,off:=0 }) s.so.n k2)).setCell { block:=BX,off:=6 } (Value.slice (some { block:=B3,off:=0 }) s.sf.n k3))=WZ at *
  clear m b7 ck d6 zc1 dc zc2 eb zc3 c8 zc4 d5 zc5 dd dh xl c9 dm;refine⟨jp.no (Qqx hb),?_⟩;refine NoPanic.normal ?_;go_wp2_with fail;have dn:Hid (Yf w.heap.size W0.heap.size s ⟨⟨some ⟨g0,0,none⟩,s.on.n,X,λi=>⟨some ⟨Gr i,0,none⟩,(s.on.r i).n,Cr i,(s.on.r i).z⟩⟩,⟨none,0,0,λ_=>⟨0,⟨none,0,0,λ_=>⟨0,0,0,0⟩⟩⟩⟩,D,m',⟨some ⟨T,0,none⟩,s.si.n,k1,s.si.z⟩,⟨some ⟨U,0,none⟩,s.so.n,k2,s.so.z⟩,⟨some ⟨B3,0,none⟩,s.sf.n,k3,s.sf.z⟩⟩ BX 0 WZ):=⟨.slice .none 0 0,λ_=>⟨0,⟨none,0,0,λ_=>⟨0,0,0,0⟩⟩⟩,KZ,World.ownsRow_nil _ _ _ _,λi hi=>absurd hi (Qzq _),λi j _ y=>absurd y (Qzq _),ba⟩;clear KZ HR ba cj;have os4:=HF.out.os4;have ig:=HS.out.os.le;have ee:=HS.out.os.cap;unfold maxLen at ee
  go_loopw [4] (λi l=>∃k:Nat,k<=s.os.n/\i = .int .i64 k/\Hid (Yf w.heap.size W0.heap.size s ⟨⟨some ⟨g0,0,none⟩,s.on.n,X,λi=>⟨some ⟨Gr i,0,none⟩,(s.on.r i).n,Cr i,(s.on.r i).z⟩⟩,⟨none,0,0,λ_=>⟨0,⟨none,0,0,λ_=>⟨0,0,0,0⟩⟩⟩⟩,D,m',⟨some ⟨T,0,none⟩,s.si.n,k1,s.si.z⟩,⟨some ⟨U,0,none⟩,s.so.n,k2,s.so.z⟩,⟨some ⟨B3,0,none⟩,s.sf.n,k3,s.sf.z⟩⟩ BX k l)/\Below W0.heap.size W0 l) (λi _=>s.os.n-(intOf i).toNat)
  case atStart=>exact⟨0,Qxz _,rfl,dn,hb⟩
  clear dn hb;obtain⟨k,hk,rfl,HL,hB⟩:=hrel;obtain⟨⟨lb,b0,b1,b2,b3,b4,b5,b6⟩,hz,cc,fm⟩:=HC.out wr hB;by_cases d9:k<s.os.n;rotate_left
  .have fj:k=s.os.n:=by omega
   subst fj;obtain⟨v,Ls,Q,ho,ao,bj,L⟩:=HL.out;have hv:∃va vc,v = .slice va s.os.n vc/\s.os.n<=vc/\vc<=maxLen/\(0<s.os.n->∃g,va=some ⟨g,0,none⟩/\w.heap.size<=g/\Blk wr g 57 (s.os.n*2) (λj=>(jh s.os.n Ls).getD j default)):=by
    by_cases bz:v = .slice none 0 0
    .have F:s.os.n=0:=by
      rcases ho.2 with⟨_,F⟩|⟨g2,ce,eh,h,_⟩
      .exact F
      rw[bz] at h;cases h
     exact⟨none,0,by rw[bz,F],by omega,Qxz _,λh=>by omega⟩
    obtain⟨g,c,rfl,P,h2,h3,h4⟩:=Blk.ofOwns ho bz;exact⟨some ⟨g,0,none⟩,c,rfl,P,h2,λ_=>⟨g,rfl,by omega,h4⟩⟩
   obtain⟨va,vc,rfl,v1,v2,v3⟩:=hv;have v4:fo w.heap.size wr 57 2 va vc:=fo.ofOwns ho (by omega);have HR:Hid (ai w.heap.size wr ⟨⟨some ⟨g0,0,none⟩,s.on.n,X,λi=>⟨some ⟨Gr i,0,none⟩,(s.on.r i).n,Cr i,(s.on.r i).z⟩⟩,⟨va,s.os.n,vc,Ls⟩,D,m',⟨some ⟨T,0,none⟩,s.si.n,k1,s.si.z⟩,⟨some ⟨U,0,none⟩,s.so.n,k2,s.so.z⟩,⟨some ⟨B3,0,none⟩,s.sf.n,k3,s.sf.z⟩⟩):=
    ⟨L.on,L.rows,L.rapart,⟨v1,v2,v3,λi hi=>(ao i hi).2.2.2,bj,v4⟩,L.hs,L.ms,L.msr,L.si,L.so,L.sf,L.aio,L.aif,L.aof,L.ari⟩
   have gy:Hid (ae ⟨⟨some ⟨g0,0,none⟩,s.on.n,X,λi=>⟨some ⟨Gr i,0,none⟩,(s.on.r i).n,Cr i,(s.on.r i).z⟩⟩,⟨va,s.os.n,vc,Ls⟩,D,m',⟨some ⟨T,0,none⟩,s.si.n,k1,s.si.z⟩,⟨some ⟨U,0,none⟩,s.so.n,k2,s.so.z⟩,⟨some ⟨B3,0,none⟩,s.sf.n,k3,s.sf.z⟩⟩ s):=
    ⟨⟨rfl,λi hi=>⟨rfl,λj y=>rfl⟩⟩,⟨rfl,λi hi=>⟨(ao i hi).1,(ao i hi).2.1,λj y=>(ao i hi).2.2.1 j (by rw[<-(ao i hi).2.1];exact y)⟩⟩,db.out.1,db.out.2,⟨rfl,λj y=>rfl⟩,⟨rfl,λj y=>rfl⟩,⟨rfl,λj y=>rfl⟩⟩
   have xl:=Q.lt;obtain⟨x0,x1,x2,x3,x4,x5,x6⟩:=cn Q;have di:=hid hz;obtain⟨zl,b7,ck,d6,zc1,dc,zc2,eb,zc3,c8,zc4,d5,zc5,dd,dh⟩:=z7 hz;clear hz Q ho ao bj L v1 v2 v3 v4 HL cc b0 b2 b3 b4 b5 b6;go_wp2_with fail;have KZ:=rq di.out (.slice (some ⟨g0,0,none⟩) s.on.n X) (.slice va s.os.n vc) (.slice D.a D.n D.c) (.slice m'.a m'.n m'.c) (.slice (some ⟨T,0,none⟩) s.si.n k1) (.slice (some ⟨U,0,none⟩) s.so.n k2) (.slice (some ⟨B3,0,none⟩) s.sf.n k3);have d4:=nf (b:=w.heap.size+1) fm (by omega) (.slice (some ⟨g0,0,none⟩) s.on.n X) (.slice va s.os.n vc) (.slice D.a D.n D.c) (.slice m'.a m'.n m'.c) (.slice (some ⟨T,0,none⟩) s.si.n k1) (.slice (some ⟨U,0,none⟩) s.so.n k2) (.slice (some ⟨B3,0,none⟩) s.sf.n k3);have ba:=ai.set7 HR.out di.out (.slice (some ⟨g0,0,none⟩) s.on.n X) (.slice va s.os.n vc) (.slice D.a D.n D.c) (.slice m'.a m'.n m'.c) (.slice (some ⟨T,0,none⟩) s.si.n k1) (.slice (some ⟨U,0,none⟩) s.so.n k2) (.slice (some ⟨B3,0,none⟩) s.sf.n k3);unfold set7 at KZ d4 ba
   generalize (((((((wr.setCell { block:=w.heap.size+1,off:=0 } (Value.slice (some { block:=g0,off:=0 }) s.on.n X)).setCell { block:=w.heap.size+1,off:=1 } (Value.slice va s.os.n vc)).setCell { block:=w.heap.size+1,off:=2 } (Value.slice D.a D.n D.c)).setCell { block:=w.heap.size+1,off:=3 } (Value.slice m'.a m'.n m'.c)).setCell { block:=w.heap.size+1,off:=4 } (Value.slice (some { block:=T,off:=0 }) s.si.n k1)).setCell { block:=w.heap.size+1,off:=5 } (Value.slice (some { block:=U,off:=0 }) s.so.n k2)).setCell { block:=w.heap.size+1,off:=6 } (Value.slice (some { block:=B3,off:=0 }) s.sf.n k3))=WY at *
   obtain⟨f6,gl,gf,fq,f0,g3,gh⟩:=cn KZ;have HQ:=hid ba;refine Xzq (v:=(⟨⟨some ⟨g0,0,none⟩,s.on.n,X,λi=>⟨some ⟨Gr i,0,none⟩,(s.on.r i).n,Cr i,(s.on.r i).z⟩⟩,⟨va,s.os.n,vc,Ls⟩,D,m',⟨some ⟨T,0,none⟩,s.si.n,k1,s.si.z⟩,⟨some ⟨U,0,none⟩,s.so.n,k2,s.so.z⟩,⟨some ⟨B3,0,none⟩,s.sf.n,k3,s.sf.z⟩⟩:St).val) (by simp[results,results20,go_sem,St.val,f6,gl,gf,fq,f0,g3,gh]) rfl ?_;exact⟨_,rfl,gy.out,HQ.out,d4⟩
  obtain⟨v,Ls,Q,ho,ao,bj,L⟩:=HL.out;obtain⟨bo,oo,dx,ij,y0,y1,dz⟩:=cc.os.ods k d9;have l3:=HF.out.lns k d9;have HG:=qa4 ho ao bj L;have HX:=hid Q;have du:=hid dz;have qk:(0:Int)<=(k:Int):=by omega
  rw[dx] at b1;have r0:=Qqq (Q.k 1);have r1:=Qqq b1;have r2:=Qqq y0;have r3:=Qqq y1;clear Q ho ao bj L hz dx y0 y1 dz b0 b2 b3 b4 b5 b6 cc HL;go_wp2_with fail;refine tc (λw'=>∃p:Regrown,w'=grow (redrawn wr p.d) p.os) [0,1,2,3,4,5,6,7,9,10,11,12,13,14] [8,15,16,17] [(true,18),(true,19),(true,20)] (Qqx (brf.drew)) ?_;simp only[dv,Qyq,Xqq,Qyx,Qyz,Xqz,Xqx]
  repeat(go_big_quiet_step(fail))
  refine Qqz ?_;clear r0 r1 r2 r3;refine⟨λj v g l=>match j with|15=>DHs wr.heap.size 59 (s.os.z k).ls v g l|16=>D16 wr.heap.size (s.os.z k) v g l|17=>D17 wr.heap.size (s.os.z k) v g l|_=>DE v g,
   Qjx ⟨λv g w w' _ h=>h,Qjx ⟨λv g w w' hB h=>DHs.below h hB,Qjx ⟨λv g w w' hB h=>D16.below h hB,Qjx ⟨λv g w w' hB h=>D17.below h hB,Qjq _⟩⟩⟩⟩,
   Qjx ⟨λv g w h=>by obtain⟨_,P,_⟩:=h;rw[P];intro x hx;simp at hx,Qjx ⟨λv g w h=>by obtain⟨_,P,_⟩:=h;rw[P];intro x hx;simp at hx,Qjx ⟨λv g w h=>by obtain⟨_,P,_⟩:=h;rw[P];intro x hx;simp at hx,Qjx ⟨λv g w h=>by obtain⟨_,_,P,_⟩:=h;rw[P];intro x hx;simp at hx,Qjq _⟩⟩⟩⟩,
   Qjx ⟨?zt8,Qjx ⟨?zt15,Qjx ⟨?zt16,Qjx ⟨?zt17,Qjq _⟩⟩⟩⟩,?ztdone⟩
  case zt8 =>
   intro V G l K t hd J o;have m:=af t;refine ay 8 rfl ?_;simp only[am,bu,Qvz,Qwq,Qvx,Act.put,Qvq,Qwx,Qwz] at o ⊢;go_wp2_with fail;exact o _ [] _ (Qqx (m.alloc m.size _)) (brf.alloc nlr _) (λx hx=>by simp at hx) ⟨l.heap.size,rfl,rfl⟩
  case zt15 =>
   intro V G l K t hd J o;have m:=af t;have q:=m.size;obtain⟨B,-,h3⟩:DE (V 8) (G 8):=hd 8 (Qjz (by kernel_rfl)) (by simp);refine ay 15 rfl ?_;simp only[am,bu,Qvz,Qwq,Qvx,Act.put,Qvq,Qwx,Qwz,h3] at o ⊢;go_wp2_with(at_builtin;refine ov l rfl (.tmp 44) (.tmp 50) 45 rfl 59 iL (.agg #[.int .i64 0,.int .i64 0,.int .i64 0,.int .i64 0]) 4 32 underlying45 hL gv e5 fu rfl (by decide) B rfl (s.os.z k).ls.a (s.os.z k).ls.n (s.os.z k).ls.c (ax (s.os.z k).ls.n (s.os.z k).ls.z) rfl (by rw[ep]) (Jc (du.out.below m)) (ma _ _) (Nl (du.out.below m)) (by unfold maxLen;omega) (by omega) ?_ ?_)
   .intro F;exact absurd F (by omega)
   intro F v' w1 S E;have M:Below l.heap.size l w1:=(Below.refl _ l).grown E nlr (by intro k hk;cases hk);obtain⟨H,rfl,hc⟩:=Bb (A:=wr.heap.size) F S (by omega);exact mj (o _ [] _ (Qqx (m.trans (M.mono m.size))) M (λx hx=>by simp at hx) ⟨H,rfl,rfl,hc⟩)
  case zt16 =>
   intro V G l K t hd J o;obtain⟨H,-,fl,hc⟩:DHs wr.heap.size 59 (s.os.z k).ls (V 15) (G 15) l:=hd 15 (Qjz (by kernel_rfl)) (by simp);have bb:Hid (pj wr.heap.size 59 (s.os.z k).ls l H):=hc;clear hc;refine ay 16 rfl ?_;simp only[am,bu,Qvz,Qwq,Qvx,Act.put,Qvq,Qwx,Qwz,fl] at o ⊢;go_wp2_with fail;exact o _ [] _ t brf (λx hx=>by simp at hx) ⟨H,rfl,rfl,bb.out⟩
  case zt17 =>
   intro V G l K t hd J o;have m:=af t;obtain⟨H,-,f8,hc⟩:D16 wr.heap.size (s.os.z k) (V 16) (G 16) l:=hd 16 (Qjz (by kernel_rfl)) (by simp);have bb:Hid (pj wr.heap.size 59 (s.os.z k).ls l H):=hc;clear hc;refine ay 17 rfl ?_;simp only[am,bu,Qvz,Qwq,Qvx,Act.put,Qvq,Qwx,Qwz,f8] at o ⊢;go_wp2_with fail;have dk:=(Below.refl l.heap.size l).alloc nlr (.cells #[.int .i64 (s.os.z k).k,.slice H.a H.n H.c] 57);exact o _ [] _ (Qqx (m.alloc m.size _)) (brf.alloc nlr _) (λx hx=>by simp at hx) ⟨l.heap.size,H,rfl,rfl,m.size,Blk.mk' rfl rfl,bb.out.1,bb.out.2.1,bb.out.2.2.1.below dk,bb.out.2.2.2.below dk⟩
  case ztdone =>
   intro V G' l t hD J;obtain⟨BO,H,-,gs,ii,cd,e1,e2,⟨o1,o2,o3,o4⟩,-⟩:D17 wr.heap.size (s.os.z k) (V 17) (G' 17) l:=hD 17 (by simp);have m:=af t;have ho:=lv HG.out.1 m;have dw:=hB.trans (m.mono hB.size);have q0:=hB.size;have q1:=m.size;obtain⟨gB,ea,im,kB⟩:=o4 (by omega);clear t hD J;have HE:=qa5 e1 e2 ea o1 o2;have df:=hid kB;clear e1 e2 ea o1 o2 o3 o4 kB;simp only[am,bu,Qvz,Qwq,Qvx,Act.put,Qvq,Qwx,Qwz,gs];refine dj 18 rfl ?_;go_wp2_with(at_builtin;refine wpList_append_own _ rfl (.tmp 37) (.tmp 53) 27 rfl W0.heap.size 57 iO (.agg #[.int .i64 0,.slice none 0 0]) 2 32 underlying27 hO e3 eu gd rfl (by decide) _ _ _ rfl ho ⟨BO,0,none⟩ 1 1 [.int .i64 (s.os.z k).k,.slice H.a H.n H.c] rfl rfl ?zc1 ?zc2 ?zc3 ?zc4 ?zc5 ?_)
   case zc1 =>
    intro j u y
    match j,y with
    | 0,y=>simp at y;subst y;exact cd.k 0
    | 1,y=>simp at y;subst y;exact cd.k 1
   case zc2=>intro u hu;simp at hu;rcases hu with rfl|rfl<;>rfl
   case zc3=>unfold maxLen;omega
   case zc4=>omega
   case zc5=>omega
   intro v2 w2 bd Y cx;have bx:=ho.lt;have er:Below W0.heap.size W0 w2:=dw.grown Y (by omega) (λq hq=>(bx q hq).1);have al:=xd ho Y (HX.out.below m) (by decide);have b8:=xd ho Y df.out (by decide);have co:∀i,i<k->Lf w.heap.size s Ls i w2:=λi hi=>by
    obtain⟨x1,x2,x3,B,x4,x5,x6,x7,x8⟩:=HG.out.2.1 i hi;exact⟨x1,x2,x3,B,x4,x5,x6,x7,xd ho Y (x8.below m) (by decide)⟩
   have cm:∀i,i<k->(Ls i).ls.a≠some ⟨gB,0,none⟩:=λi hi e=>by
    obtain⟨x1,x2,x3,B,x4,x5,x6,x7,x8⟩:=HG.out.2.1 i hi;rw[x4] at e;simp only[Qkx,Qkz,and_true] at e;have:=x8.lt;omega
   have cp:=ai.grownO (HG.out.2.2.2.below m) rfl rfl ho Y;have fs:∃g c,v2 = .slice (some ⟨g,0,none⟩) (k+1) c:=by
    rcases bd.2 with⟨_,F⟩|⟨g2,ce,eh,rfl,_⟩
    .omega
    exact⟨g2,ce,rfl⟩
   have xl:=al.lt;have b7:=al.frozen 1;have ck:=al.k 1;have gn:=er.setCell (p:=⟨BX,1,none⟩) mX v2;have KB:=al.set 1 v2;have HN:Hid (Yf w.heap.size W0.heap.size s ⟨⟨some ⟨g0,0,none⟩,s.on.n,X,λi=>⟨some ⟨Gr i,0,none⟩,(s.on.r i).n,Cr i,(s.on.r i).z⟩⟩,⟨none,0,0,λ_=>⟨0,⟨none,0,0,λ_=>⟨0,0,0,0⟩⟩⟩⟩,D,m',⟨some ⟨T,0,none⟩,s.si.n,k1,s.si.z⟩,⟨some ⟨U,0,none⟩,s.so.n,k2,s.so.z⟩,⟨some ⟨B3,0,none⟩,s.sf.n,k3,s.sf.z⟩⟩ BX (k+1) (w2.setCell ⟨BX,1,none⟩ v2)):=by
    refine⟨v2,λi=>if i=k then ⟨(s.os.z k).k,H⟩ else Ls i,KB.congr (λj y=>by match j,y with|0,_=>rfl|1,_=>rfl|2,_=>rfl|3,_=>rfl|4,_=>rfl|5,_=>rfl|6,_=>rfl),?_,λi hi => ?_,λi j bn y => ?_,cp.box al 1 v2⟩
    .have e:jh (k+1) (λi=>if i=k then ⟨(s.os.z k).k,H⟩ else Ls i)=jh k Ls++[.int .i64 (s.os.z k).k,.slice H.a H.n H.c]:=by
      rw[jh,ye (z':=Ls) λi hi=>by rw[if_neg (by omega)],if_pos rfl]
      rfl
     rw[e];exact Zb bd al (by decide) _ _
    .by_cases dq:i=k
     .subst dq;unfold Lf;dsimp only;rw[if_pos rfl];exact⟨rfl,HE.out.1,HE.out.2.1,gB,HE.out.2.2.1,by omega,HE.out.2.2.2.1,HE.out.2.2.2.2,b8.other (a:=⟨BX,1,none⟩) (Blk.ne b8 al (by decide)) _⟩
     unfold Lf;dsimp only;rw[if_neg dq];obtain⟨x1,x2,x3,B,x4,x5,x6,x7,x8⟩:=co i (by omega);exact⟨x1,x2,x3,B,x4,x5,x6,x7,x8.other (a:=⟨BX,1,none⟩) (Blk.ne x8 al (by decide)) _⟩
    dsimp only;by_cases ed:j=k
    .subst ed;rw[if_neg (by omega),if_pos rfl,HE.out.2.2.1];exact cm i bn
    rw[if_neg (by omega),if_neg ed];exact HG.out.2.2.1 i j bn (by omega)
   clear b8 co cm cp KB bd al ho Y cx bx cd m HG HX dw df HE;obtain⟨g2,c2,rfl⟩:=fs;refine mj ⟨jp.yes,?_⟩;refine dj 19 rfl ?_;go_wp2_with fail;refine⟨jp.yes,?_⟩;refine dj 20 rfl ?_;go_wp2_with fail;refine⟨jp.yes,?_⟩;refine NoPanic.normal ?_;go_wp2_with fail;go_roundw
   case rel=>exact⟨k+1,by omega,by go_num,HN,gn⟩
   case measure=>simp[intOf];omega
def pk(A:Nat)(e:TypeId)(w w':World):Prop:=∃row,w.grownBy w' row/\∀k,row=some k->A<=k/\∃cur,w.heap[k]?=some (.cells cur e (0,0))
theorem pk.blk{A:Nat}{e:TypeId}{w g:World}(h:pk A e w g){q:Nat}{t:TypeId}{m:Nat}{f:Nat->Value}(d:Blk w q t m f)(c:t≠e):Blk g q t m f:=by
 obtain⟨row,k,j⟩:=h;refine d.grown k λi => ?_;obtain⟨_,c2,a⟩:=j q i.symm;obtain⟨c3,b,_⟩:=d;rw[b] at a;cases a;exact c rfl
theorem pk.low{A:Nat}{e:TypeId}{w a:World}(h:pk A e w a){q:Nat}{t:TypeId}{m:Nat}{f:Nat->Value}(d:Blk w q t m f)(i:q<A):Blk a q t m f:=by
 obtain⟨row,g,c⟩:=h;exact d.grown g λb=>by have:=(c q b.symm).1;omega
theorem pk.below{A a:Nat}{e:TypeId}{w0 w b:World}(h:pk A e w b)(c:Below a w0 w)(i:a<=A)(hs:a<=w.heap.size):Below a w0 b:=by
 obtain⟨row,g,f⟩:=h;exact c.grown g hs λk d=>by have:=(f k d).1;omega
theorem fo.grew{A B:Nat}{t:TypeId}{w i:World}{k c:Nat}{a:Option Addr}{e:TypeId}(h:fo A w t k a c)(f:pk B e w i)(j:t≠e):fo A i t k a c:=by
 obtain⟨row,f,m⟩:=f;refine h.same λg cur b=>f.block g (Qkq b).1 λl => ?_;obtain⟨_,c2,d⟩:=m g l.symm;rw[b] at d;cases d;exact j rfl
theorem ju.grew{A B:Nat}{w a:World}{r:Rw}{e:TypeId}(h:ju A w r)(j:pk B e w a)(b:3≠e):ju A a r:=by
 obtain⟨g,i,f,c,d,k⟩:=h;exact⟨g,i,f,c,d,j.blk k b⟩
theorem cy.grew{A B:Nat}{t:TypeId}{w a:World}{s:Hs}{e:TypeId}(h:cy A t w s)(m:pk B e w a)(b:t≠e):cy A t a s:=by
 obtain⟨d,n,k,f⟩:=h;refine⟨d,n,k,λi => ?_⟩;obtain⟨g,l,c,j⟩:=f i;exact⟨g,l,c,m.blk j b⟩
theorem O8{A b:Nat}{w:World}{e:TypeId}{size:Nat}{v:Value}{n:Nat}{a:List Value}(h:w.ownsRow A e size v n a)(c:b<=A):w.ownsRow b e size v n a :=
 ⟨h.1,h.2.imp_right λ⟨g,cap,cur,h1,h2,h3⟩=>⟨g,cap,cur,h1,Qzx c h2,h3⟩⟩
theorem Np{A:Nat}{w:World}{e:TypeId}{size g c n:Nat}{cur:Array Value}{a:List Value}(p:A<=g)(k:w.heap[g]?=some (.cells cur e (0,0)))(m:cur.size=c*size)(i:n<=c)(d:c<=maxLen)(t:a.length=n*size)
  (r:0<n->Blk w g e (n*size) (λj=>a.getD j default)):w.ownsRow A e size (.slice (some ⟨g,0,none⟩) n c) n a:=by
 refine⟨t,Or.inr ⟨g,c,cur,rfl,p,k,i,d,m,?_⟩⟩
 apply List.ext_getElem?
 intro j;rw[List.getElem?_take];by_cases b:j<n*size
 .rw[if_pos b];have q:0<n:=by
   rcases Nat.eq_zero_or_pos n with h|h
   .subst h;simp at b
   exact h
  obtain⟨o,hc,_,s⟩:=r q;rw[k] at hc;cases hc;have f:=s j b;have l:j<a.length:=by omega
  rw[List.getElem?_eq_getElem l];simp only[List.getD,List.getElem?_eq_getElem l,Option.getD_some] at f
  simpa using f
 rw[if_neg b,List.getElem?_eq_none (by omega)]
theorem ta{P:Program}(w:World){F:Array Oper}{rest:List Oper}{o:Oper}{a:Act}{Q:Exit->Act->World->Prop}
  (X:o.guard=none) (s x:Operand) (t:TypeId) (D:o.op=Op.call { callee:=Callee.builtin Builtin.append,args:=#[s,x],argTypes:=#[t,t] })
  (A:Nat) (e:TypeId) (i:TypeInfo) (z:Value) (size bytes:Nat) (h1:P.underlying t=some (.slice e)) (Y:P.info? e=some i) (V:i.zero=some z) (h4:i.size=size) (h5:i.bytes=bytes) (h6:z.cells.size=size) (W:0<size)
  (v:Option Addr) (n c:Nat) (l:List Value) (hs:a.eval s = .slice v n c) (r:fo A w e size v c) (U:n<=c) (M:c<=maxLen) (E:l.length=n*size) (J:0<n->∃g,v=some ⟨g,0,none⟩/\A<=g/\Blk w g e (n*size) (λj=>l.getD j default))
  (p:Addr) (m K:Nat) (news:List Value) (hx:a.eval x = .slice (some p) m K) (hn:news.length=m*size) (hc:∀j u,news[j]?=some u->w.cell? (p.add j)=some u) (G:∀u∈news,u.oneCell'=true)
  (hm:0<m) (b1:n+m<=maxLen) (b2:(n+m)*bytes<=140737488355328) (hA:A<=w.heap.size)
  (hK:∀f d,d.ownsRow A e size f (n+m) (l++news)->pk A e w d->wpList P F Q rest (a.put o.dst f) d) :
  wpList P F Q (o :: rest) a w:=by
 rcases r with h0|⟨g,cur,ha,B,y,ab⟩
 .subst h0;have ai:n=0:=by omega
  subst ai;obtain rfl:l=[]:=List.eq_nil_of_length_eq_zero (by simpa using E);refine wpList_append_grows w X s x t D e i z size bytes h1 Y V h4 h5 h6 W v 0 0 [] hs (λ_=>⟨rfl,rfl⟩) (by simp) (λb _ j u hj=>by simp at hj) p m K news hx hn hc G (by omega) b1 b2 λf d L S => ?_;exact hK f d (O8 L hA) ⟨none,S,λk q=>by cases q⟩
 subst ha;have H:=Np (w:=w) (e:=e) B y ab U M E (λh=>by
  obtain⟨g',T,_,hb⟩:=J h;simp only[Qkx,Qkz,and_true] at T;subst T;exact hb)
 refine wpList_append_own w X s x t D A e i z size bytes h1 Y V h4 h5 h6 W _ n l hs H p m K news hx hn hc G b1 b2 hA λf d L S _ => ?_;refine hK f d L ⟨_,S,λk q => ?_⟩;simp only[Value.ownBlock,Qkx] at q;subst q;exact⟨B,cur,y⟩
def l7(s:Os)(x:Od)(i:Nat):Od:=if i=s.n then x else s.z i
theorem Ui(s:Os)(x:Od):jh s.n s.z++py x=jh (s.n+1) (l7 s x):=by
 rw[jh,ye (z':=l7 s x) λi hi=>by unfold l7;rw[if_neg (by omega)]]
 congr 1
 unfold l7;rw[if_pos rfl]
theorem j7.more{A:Nat}{w b:World}{s:Os}{x:Od}{v:Value}(h:j7 A w s)(k:b.ownsRow A 57 2 v (s.n+1) (jh s.n s.z++py x))(l:pk A 57 w b)
  {B:Nat} (D:x.ls.a=some ⟨B,0,none⟩) (u:A<=B) (K:x.ls.n<=x.ls.c) (hc:x.ls.c<=maxLen) (J:Blk w B 59 (x.ls.n*4) (λj=>(ax x.ls.n x.ls.z).getD j default)) (m:∀i,i<s.n->(s.z i).ls.a≠x.ls.a) :
  ∃va vc,v = .slice va (s.n+1) vc/\j7 A b ⟨va,s.n+1,vc,l7 s x⟩:=by
 have P:v ≠ .slice none 0 0:=by
  rintro rfl;rcases k.2 with⟨_,T⟩|⟨U,M,L,h,_⟩
  .omega
  cases h
 have e:=k;rw[Ui] at e;obtain⟨g,c,rfl,q,E,t,F⟩:=Blk.ofOwns e P;refine⟨some ⟨g,0,none⟩,c,rfl,q,E,λ_=>⟨g,rfl,t,F⟩,λi hi => ?_,λi j o G => ?_,fo.ofOwns k nlr⟩
 .show ∃B,(l7 s x i).ls.a=_/\A<=B/\(l7 s x i).ls.n<=(l7 s x i).ls.c/\(l7 s x i).ls.c<=maxLen/\Blk b B 59 ((l7 s x i).ls.n*4) (λj=>(ax (l7 s x i).ls.n (l7 s x i).ls.z).getD j default);have S:i<s.n+1:=hi;unfold l7;by_cases d:i=s.n
  .rw[if_pos d];exact⟨B,D,u,K,hc,l.blk J (by decide)⟩
  rw[if_neg d];obtain⟨B',a1,y,r,p,H⟩:=h.lines i (by omega);exact⟨B',a1,y,r,p,l.blk H (by decide)⟩
 have Q:j<s.n+1:=G;show(l7 s x i).ls.a≠(l7 s x j).ls.a;unfold l7;rw[if_neg (by omega)];by_cases f:j=s.n
 .rw[if_pos f];exact m i (by omega)
 rw[if_neg f];exact h.apart i j o (by omega)
structure Bt(R:Nat)(w w':World):Prop where
 os:w'.os=w.os
 tape:w'.tape=w.tape
 output:w'.output=w.output
 size:w.heap.size<=w'.heap.size
 block:∀q,q<w.heap.size->q≠R->w'.heap[q]?=w.heap[q]?
theorem Bt.refl(R:Nat)(w:World):Bt R w w:=⟨rfl,rfl,rfl,Nat.le_refl _,λ_ _ _=>rfl⟩
theorem Bt.trans{R:Nat}{a b c:World}(h:Bt R a b)(k:Bt R b c):Bt R a c :=
 ⟨k.os.trans h.os,k.tape.trans h.tape,k.output.trans h.output,Qzx h.size k.size,λq e d=>(k.block q (Xzx e h.size) d).trans (h.block q e d)⟩
theorem Bt.drew{R:Nat}{a w:World}(h:Bt R a w):Bt R a w.drew:=⟨h.os,h.tape,h.output,h.size,h.block⟩
theorem Bt.of{R B:Nat}{w a:World}(h:Below B w a)(b:w.heap.size<=B):Bt R w a:=⟨h.os,h.tape,h.output,h.size,λq c _=>h.block q (by omega)⟩
theorem Bt.alloc{R:Nat}{a w:World}(h:Bt R a w)(o:Obj):Bt R a (w.alloc o):=h.trans (Bt.of (brf.alloc nlr o) nlr)
theorem Bt.set{R:Nat}{a w:World}(h:Bt R a w){p:Addr}(b:p.block=R\/a.heap.size<=p.block)(u:Value):Bt R a (w.setCell p u):=
 ⟨h.os,h.tape,h.output,by simpa[World.setCell] using h.size,λq d c=>(Below.heap_setCell w p u q (by rcases b with b|b<;>omega)).trans (h.block q d c)⟩
theorem Bt.thenB{R:Nat}{a b c:World}(h:Bt R a b)(k:Below a.heap.size b c):Bt R a c :=
 ⟨k.os.trans h.os,k.tape.trans h.tape,k.output.trans h.output,Qzx h.size k.size,λq d e=>(k.block q d).trans (h.block q d e)⟩
theorem Bt.blk{R:Nat}{w a:World}(h:Bt R w a){q:Nat}{e:TypeId}{n:Nat}{f:Nat->Value}(b:Blk w q e n f)(c:q≠R):Blk a q e n f:=b.same (h.block q b.lt c)
theorem Bt.below{R B:Nat}{w a:World}(h:Bt R w a)(b:B<=R)(hs:B<=w.heap.size):Below B w a:=⟨h.os,h.tape,h.output,h.size,λk c=>h.block k (by omega) (by omega)⟩
theorem Bt.grew{R A:Nat}{e:TypeId}{a w c:World}(h:Bt R a w)(b:pk A e w c)(i:a.heap.size<=A):Bt R a c:=by
 obtain⟨row,b,f⟩:=b;exact⟨b.os.trans h.os,b.tape.trans h.tape,b.output.trans h.output,Qzx h.size b.size,λq d g=>(b.block q (Xzx d h.size) (λe=>by have:=(f q e.symm).1;omega)).trans (h.block q d g)⟩
structure Eqv(w w':World):Prop where
 os:w'.os=w.os
 tape:w'.tape=w.tape
 output:w'.output=w.output
 heap:w'.heap=w.heap
theorem Eqv.refl(w:World):Eqv w w:=⟨rfl,rfl,rfl,rfl⟩
theorem Eqv.trans{a b c:World}(h:Eqv a b)(k:Eqv b c):Eqv a c:=⟨k.os.trans h.os,k.tape.trans h.tape,k.output.trans h.output,k.heap.trans h.heap⟩
theorem Eqv.drew(w:World):Eqv w w.drew:=⟨rfl,rfl,rfl,rfl⟩
theorem Eqv.drewN(w:World)(n:Nat):Eqv w (w.drewN n):=⟨rfl,rfl,rfl,rfl⟩
theorem Eqv.set{w a:World}(h:Eqv w a)(p:Addr)(u:Value):Eqv (w.setCell p u) (a.setCell p u):=by
 refine⟨h.os,h.tape,h.output,?_⟩;unfold World.setCell;rw[h.heap]
theorem Eqv.below{w a:World}(h:Eqv w a)(B:Nat):Below B w a:=⟨h.os,h.tape,h.output,by rw[h.heap];exact Nat.le_refl _,λk _=>by rw[h.heap]⟩
theorem Eqv.bt{w a:World}(h:Eqv w a)(R:Nat):Bt R w a:=⟨h.os,h.tape,h.output,by rw[h.heap];exact Nat.le_refl _,λk _ _=>by rw[h.heap]⟩
theorem Eqv.blk{w a:World}(h:Eqv w a){q:Nat}{e:TypeId}{n:Nat}{f:Nat->Value}(b:Blk w q e n f):Blk a q e n f:=b.same (by rw[h.heap])
def getW(R:Nat)(t:List UInt8):List Addr->Nat->World->World
 | [],_,w=>w
 | p :: ps,k,w=>getW R t ps (k+1) ((w.setCell p (.int .i64 (rdN t k))).setCell ⟨R,1,none⟩ (.int .i64 ((k+1:Nat):Int)))
theorem Ov(R:Nat)(t:List UInt8):∀(a:List Addr) (p:Addr) (k:Nat) (w:World),getW R t (a++[p]) k w=((getW R t a k w).setCell p (.int .i64 (rdN t (k+a.length)))).setCell ⟨R,1,none⟩ (.int .i64 ((k+a.length+1:Nat):Int))
 | [],p,k,w=>rfl
 | q :: a,p,k,w=>by
  show getW R t (a++[p]) (k+1) _=_;rw[Ov R t a p (k+1)];simp only[List.length_cons,getW];rw[show k+1+a.length=k+(a.length+1) by omega]
theorem Ew(R:Nat)(t:List UInt8){a:World}:∀(b:List Addr) (k:Nat) (w:World),Bt R a w->(∀p∈b,p.block=R\/a.heap.size<=p.block)->Bt R a (getW R t b k w)
 | [],_,_,h,_=>h
 | p :: b,k,w,h,hp=>Ew R t b (k+1) _ ((h.set (hp p (List.mem_cons_self ..)) _).set (Or.inl rfl) _) λq c=>hp q (List.mem_cons_of_mem _ c)
def Shp(w:World)(q:Nat)(e:TypeId)(n:Nat):Prop:=∃f,Blk w q e n f
theorem Shp.set{w:World}{q:Nat}{e:TypeId}{n:Nat}(h:Shp w q e n)(b j:Nat)(u:Value):Shp (w.setCell ⟨b,j,none⟩ u) q e n:=by
 obtain⟨f,h⟩:=h;by_cases c:q=b
 .subst c;exact⟨_,h.set j u⟩
 exact⟨_,h.other c u⟩
theorem Shp.getW{R:Nat}{t:List UInt8}{q:Nat}{e:TypeId}{n:Nat}:∀(a:List Addr) (k:Nat) (w:World),(∀p∈a,p.spot=none)->Shp w q e n->Shp (getW R t a k w) q e n
 | [],_,_,_,h=>h
 | ⟨b,j,s⟩ :: a,k,w,hp,h=>by
  have c:s=none:=hp _ (List.mem_cons_self ..);subst c;exact Shp.getW a (k+1) _ (λp d=>hp p (List.mem_cons_of_mem _ d)) ((h.set b j _).set R 1 _)
theorem Kg(R:Nat)(t:List UInt8){q:Nat}{e:TypeId}{n:Nat}{f:Nat->Value}:∀(a:List Addr) (k:Nat) (w:World),(∀p∈a,q≠p.block)->q≠R->Blk w q e n f->Blk (getW R t a k w) q e n f
 | [],_,_,_,_,h=>h
 | p :: a,k,w,hp,hR,h=>Kg R t a (k+1) _ (λb c=>hp b (List.mem_cons_of_mem _ c)) hR ((h.other (hp p (List.mem_cons_self ..)) _).other hR _)
def mw(R:Nat)(w:World)(t:List UInt8)(k:Nat):Prop:=Blk w R 85 2 (λj=>(#[.string ⟨t.toArray⟩,.int .i64 (k:Int)]:Array Value).getD j default)
structure qh(w:World)(p:Addr):Prop where
 cell:∃z,w.cell? p=some (.int .i64 z)
 frozen:w.frozen? p=false
 lt:p.block<w.heap.size
theorem qh.set{w:World}{p:Addr}(h:qh w p)(q:Addr)(v:Int):qh (w.setCell q (.int .i64 v)) p:=by
 refine⟨?_,(World.frozen?_setCell ..).trans h.frozen,by simpa[World.setCell] using h.lt⟩;by_cases e:p=q
 .subst e;obtain⟨z,a⟩:=h.cell;exact⟨v,World.cell?_setCell_same _ _ _ a⟩
 obtain⟨z,a⟩:=h.cell;exact⟨z,(World.cell?_setCell_other _ _ _ _ (λb=>e b.symm)).trans a⟩
theorem qh.getW{R:Nat}{t:List UInt8}{p:Addr}:∀(a:List Addr) (k:Nat) (w:World),qh w p->qh (getW R t a k w) p
 | [],_,_,h=>h
 | q :: a,k,w,h=>qh.getW a (k+1) _ ((h.set q _).set _ _)
theorem qh.eqv{w a:World}{p:Addr}(h:qh w p)(e:Eqv w a):qh a p:=by
 obtain⟨⟨z,c⟩,f,d⟩:=h;have b:a.heap[p.block]?=w.heap[p.block]?:=by rw[e.heap]
 exact⟨⟨z,(World.cell?_of_block b).trans c⟩,(World.frozen?_of_block b).trans f,by rw[e.heap];exact d⟩
theorem mw.set{R:Nat}{w:World}{t:List UInt8}{k:Nat}(h:mw R w t k)(m:Nat):mw R (w.setCell ⟨R,1,none⟩ (.int .i64 (m:Int))) t m :=
 (Blk.set h 1 _).congr (λj a=>by match j,a with|0,_=>rfl|1,_=>rfl)
theorem mw.getW{R:Nat}{t:List UInt8}:∀(a:List Addr) (k:Nat) (w:World),(∀p∈a,R≠p.block)->mw R w t k->mw R (getW R t a k w) t (k+a.length)
 | [],_,_,_,h=>h
 | q :: a,k,w,hp,h=>by
  have c:mw R (w.setCell q (.int .i64 (rdN t k))) t k:=Blk.other h (hp q (List.mem_cons_self ..)) _;have:=mw.getW a (k+1) _ (λp b=>hp p (List.mem_cons_of_mem _ b)) (c.set (k+1));rw[List.length_cons,show k+(a.length+1)=k+1+a.length by omega];exact this
theorem Yz(t:List UInt8){k:Nat}(a:k<t.length)(w:World):(Instr.index 9 (.string ⟨t.toArray⟩) (.int .i64 (k:Int))).run prog w = .ok (.int .u8 (rdN t k)) w:=by
 have hs:(⟨t.toArray⟩:ByteArray).size=t.length:=by simp[ByteArray.size]
 rw[run_index_string w 9 _ .i64 (k:Int) underlying9,dif_pos ⟨by omega,by rw[hs];omega⟩]
 congr 2
 unfold rdN;simp only[List.getD,List.getElem?_eq_getElem a,Option.getD_some];simp[ByteArray.getElem_eq_getElem_data]
theorem S7(R g:Nat)(t:List UInt8)(k:Nat)(a:List Addr)(w:World)(F:mw R w t k)(L:k<=t.length)(X:t.length<=4096)(y:g≠R)(hl:a.length<=100)
  (H:Blk w g 119 a.length (λj => .pointer (some (a.getD j default)))) (f:∀p∈a,qh w p/\R≠p.block/\g≠p.block) :
  Calls prog 87 #[.pointer (some ⟨R,0,none⟩),.slice (some ⟨g,0,none⟩) a.length a.length] w λe U =>
   (e = .returned (.tuple #[])/\k+a.length<=t.length/\Eqv (getW R t a k w) U)\/(e = .panicked [{ v := .iface 32 (.int .i64 1),recovered:=false }]/\t.length<k+a.length/\∃i,Eqv (getW R t (a.take i) k w) U):=by
 have HR:=hid F;have HG:Hid (Blk w g 119 a.length (λj => .pointer (some (a.getD j default)))):=H;have x:=hid f;have B:=qa4 L X hl y;clear F H f L X y;go_enter func87,ntmps87;go_wp2_with fail
 go_loopw [8] (λA s=>∃i:Nat,i<=a.length/\A = .int .i64 i/\Hid (k+i<=t.length)/\Hid (Eqv (getW R t (a.take i) k w) s)) (λA _=>a.length-(intOf A).toNat)
 case atStart=>exact⟨0,Qxz _,rfl,B.out.1,Eqv.refl w⟩
 obtain⟨i,hi,rfl,V,l⟩:=hrel;by_cases r:i<a.length;rotate_left
 .have W:i=a.length:=by omega
  subst W;have E:Hid (Eqv (getW R t a k w) wr):=by
   have h:=l.out;rw[List.take_length] at h;exact h
  clear l;go_wp2_with fail
  go_end0
  exact Or.inl ⟨rfl,V.out,E⟩
 have q0:(0:Int)<=(i:Int):=by omega
 have q1:(i:Int)<(a.length:Int):=by omega
 obtain⟨P,q⟩:∃P,a.getD i default=P:=⟨_,rfl⟩;have n:Hid (a.take (i+1)=a.take i++[P]/\P∈a/\(a.take i).length=i):=by
  refine⟨?_,?_,by simp;omega⟩
  .rw[List.take_add_one,<-q];simp[List.getD,List.getElem?_eq_getElem r]
  rw[<-q];simp[List.getD,List.getElem?_eq_getElem r]
 have u:∀p∈a.take i,p∈a:=λp f=>List.mem_of_mem_take f;have d:Hid (mw R wr t (k+i)):=by
  have:=mw.getW (R:=R) (t:=t) (a.take i) k w (λp f=>(x.out p (u p f)).2.1) HR.out;rw[n.out.2.2] at this;exact l.out.blk this
 have J:Hid (qh wr P):=(qh.getW (a.take i) k w (x.out P n.out.2.1).1).eqv l.out;have o:=l.out.blk (Kg R t (a.take i) k w (λp f=>(x.out p (u p f)).2.2) B.out.2.2.2 HG.out);have z0:wr.cell? ⟨g,i,none⟩=some (.pointer (some P)):=by rw[<-q];exact o.cell r
 have z1:=o.lt;obtain⟨⟨pz,M⟩,G,pl⟩:=J.out;have r0:wr.cell? ⟨R,0,none⟩=some (.string ⟨t.toArray⟩):=d.out.k 0;have r1:wr.cell? ⟨R,1,none⟩=some (.int .i64 ((k+i:Nat):Int)):=d.out.k 1;have rf:=Blk.frozen d.out 1;have rl:=Blk.lt d.out;clear o;have tl:((⟨t.toArray⟩:ByteArray).size)=t.length:=by simp[ByteArray.size]
 have T:Hid (∀s,Eqv ((wr.setCell P (.int .i64 (rdN t (k+i)))).setCell ⟨R,1,none⟩ (.int .i64 (((k+i+1:Nat):Int)))) s->Eqv (getW R t (a.take (i+1)) k w) s):=λs h=>by
  rw[n.out.1,Ov,n.out.2.2];exact((l.out.set P _).set ⟨R,1,none⟩ _).trans h
 generalize hKe:k+i=K at *
 by_cases c:K=t.length
 .have b:=hid c;have D:((K:Int)==(t.length:Int))=true:=by rw[c];simp
  clear c M G pl;go_wp2_with fail
  go_quiet (fail)
  go_wp2_with fail;exact⟨rfl,Or.inr ⟨rfl,by have:=b.out;omega,i,l.out.trans (Eqv.drewN wr nq)⟩⟩
 have b:Hid (K<t.length):=by have:=V.out;show _<_;omega
 have D:((K:Int)==(t.length:Int))=false:=by simp;omega
 have S:=Yz t b.out;clear c;have zb:=Xl t K
 generalize rdN t K=Z at *
 have Q:wrap64 Z=Z:=by unfold wrap64;omega
 go_wp2_with fail
 go_quiet (fail)
 go_wp2_with fail
 go_region
 have K4:=b.out;have K5:=B.out.2.1;have z:Hid (Eqv (wr.setCell P (.int .i64 Z)) ((wr.drewN (nq+1)).setCell P (.int .i64 Z))):=(Eqv.drewN wr (nq+1)).set P _
 generalize (wr.drewN (nq+1)).setCell P (.int .i64 Z)=Y at *
 have m:Hid (mw R Y t K):=z.out.blk (Blk.other d.out (x.out P n.out.2.1).2.1 _);have y0:Y.cell? ⟨R,1,none⟩=some (.int .i64 (K:Int)):=m.out.k 1;have y1:=Blk.frozen m.out 1;have y2:=Blk.lt m.out;clear S Q r0 r1 rf rl M G pl z0 z1 D;go_wp2_with fail;go_roundw
 case rel=>exact⟨i+1,by omega,by go_num,(by show k+(i+1)<=t.length;omega),T.out _ (by rw[show(((K+1:Nat):Int))=(K:Int)+1 by omega];exact z.out.set _ _)⟩
 case measure=>simp[intOf];omega
def te(L A:Nat)(w:World)(o:Bool)(xs:List Value):Prop:=∃a c,Blk w A 79 2 (λj=>(#[.slice a xs.length c,.bool o]:Array Value).getD j default)/\w.ownsRow L 5 1 (.slice a xs.length c) xs.length xs
def na(z:Int):Value := .int .u8 (z%256)
theorem Y3:(prog.info? 5).map (λi=>(i.zero,i.size,i.bytes))=some (some (.int .u8 0),1,1):=by kernel_rfl
theorem xj{A:Nat}{w:World}{e t:TypeId}{size:Nat}{v:Value}{n:Nat}{b:List Value}(h:w.ownsRow A e size v n b){q m:Nat}{f:Nat->Value}(i:Blk w q t m f)(a:e≠t)(j:Nat)(u:Value):(w.setCell ⟨q,j,none⟩ u).ownsRow A e size v n b:=by
 refine⟨h.1,h.2.imp_right λ⟨g,cap,cur,h1,h2,h3,h4⟩=>⟨g,cap,cur,h1,h2,?_,h4⟩⟩;rw[Below.heap_setCell w ⟨q,j,none⟩ u g (λk=>by
  obtain⟨c2,c,_⟩:=i;have d:g=q:=k;subst d;rw[c] at h3;cases h3;exact a rfl)]
 exact h3
theorem Ay{A:Nat}{w:World}{e:TypeId}{size:Nat}{v:Value}{n:Nat}{b:List Value}(h:w.ownsRow A e size v n b):∃a c,v = .slice a n c/\n<=maxLen:=by
 obtain⟨j,⟨rfl,rfl⟩|⟨g,cap,cur,rfl,d,k,i,f,_⟩⟩:=h
 .exact⟨none,0,rfl,Qxz _⟩
 exact⟨_,_,rfl,by omega⟩
theorem pk.bel{A L:Nat}{e:TypeId}{w a:World}(h:pk A e w a)(b:L<=A)(hs:L<=w.heap.size):Below L w a:=h.below brf b hs
theorem Fv{A:Nat}{e:TypeId}{size:Nat}{w b:World}{v:Value}{n:Nat}{c:List Value}(h:w.ownsRow A e size v n c)(i:w.grownBy b v.ownBlock):pk A e w b:=by
 refine⟨_,i,λk a => ?_⟩;obtain⟨_,⟨rfl,_⟩|⟨g,cap,cur,rfl,d,f,_⟩⟩:=h
 .cases a
 simp only[Value.ownBlock,Qkx] at a;subst a;exact⟨d,cur,f⟩
theorem te.mk'{L A:Nat}{w:World}{o:Bool}{ys:List Value}{v:Value}(d:Blk w A 79 2 (λj=>(#[v,.bool o]:Array Value).getD j default))(b:w.ownsRow L 5 1 v ys.length ys):te L A w o ys:=by
 obtain⟨a,c,rfl,_⟩:=Ay b;exact⟨a,c,d,b⟩
theorem te.store{L A:Nat}{w:World}{b:Bool}{ys:List Value}{v u:Value}(a:Blk w A 79 2 (λj=>(#[u,.bool b]:Array Value).getD j default))(c:w.ownsRow L 5 1 v ys.length ys):te L A (w.setCell ⟨A,0,none⟩ v) b ys :=
 te.mk' ((a.set 0 v).congr (λj d=>by match j,d with|0,_=>rfl|1,_=>rfl)) (xj c a (by decide) 0 v)
theorem Td(L A:Nat)(o:Bool)(r:List Value)(g:Nat)(zs:List Int)(w:World)(hL:L<=A)(hw:te L A w o r)(hz:Blk w g 3 zs.length (λj => .int .i64 (zs.getD j 0)))(hm:r.length+zs.length<=70368744177664):
  Calls prog 31 #[.pointer (some ⟨A,0,none⟩),.slice (some ⟨g,0,none⟩) zs.length zs.length] w λe w'=>e = .returned (.tuple #[])/\te L A w' (o||zs.any sv) (r++zs.map na)/\Below L w w':=by
 have HM:=hid hm;have s:=hid hL;have ah:Hid (te L A w o r):=hw;have aj:=hid hz;obtain⟨iB,ag,ao,ak,ai⟩:=info_parts Y3;have zl:zs.length<=70368744177664:=by omega
 clear hm hL hw hz;go_enter func31,ntmps31;go_wp2_with fail
 go_loopw [8] (λkv wk=>∃k:Nat,k<=zs.length/\kv = .int .i64 k/\Hid (te L A wk (o||(zs.take k).any sv) (r++(zs.take k).map na))/\Hid (Blk wk g 3 zs.length (λj => .int .i64 (zs.getD j 0)))/\Hid (Below L w wk)) (λkv _=>zs.length-(intOf kv).toNat)
 case atStart=>exact⟨0,Qxz _,rfl,(by show te L A w (o||(zs.take 0).any sv) (r++(zs.take 0).map na);simpa using ah.out),aj,Below.refl _ _⟩
 obtain⟨k,hk,rfl,S,H,HB⟩:=hrel;clear ah aj;by_cases am:k<zs.length;rotate_left
 .have q1:(zs.length:Int)<=(k:Int):=by omega
  have ba:k=zs.length:=by omega
  subst ba;have a4:Hid (te L A wr (o||zs.any sv) (r++zs.map na)):=by
   have h:=S.out;rw[List.take_length] at h;exact h
  clear S H;go_wp2_with fail
  go_end0
  exact⟨rfl,a4,HB⟩
 have q0:(0:Int)<=(k:Int):=by omega
 have q1:(k:Int)<(zs.length:Int):=by omega
 obtain⟨a,c,f,hO⟩:=S.out;obtain⟨Z,ae⟩:∃Z,zs.getD k 0=Z:=⟨_,rfl⟩;have z0:wr.cell? ⟨g,k,none⟩=some (.int .i64 Z):=by rw[<-ae];exact H.out.cell am
 have z1:=H.out.lt;have HT:Hid (zs.take (k+1)=zs.take k++[Z]):=by
  show _=_;rw[List.take_add_one,<-ae];simp[List.getD,List.getElem?_eq_getElem am]
 generalize hys:r++(zs.take k).map na=ys at *
 have af:ys.length=r.length+k:=by rw[<-hys];simp;omega
 generalize hoo:(o||(zs.take k).any sv)=oo at *
 have HN:Hid ((o||(zs.take (k+1)).any sv)=(oo||sv Z)/\r++(zs.take (k+1)).map na=ys++[na Z]):=by
  refine⟨?_,?_⟩
  .rw[HT.out,List.any_append,<-hoo];simp[Bool.or_assoc]
  rw[HT.out,List.map_append,<-hys];simp
 have c0:wr.cell? ⟨A,0,none⟩=some (.slice a ys.length c):=f.k 0;have c1:wr.cell? ⟨A,1,none⟩=some (.bool oo):=f.k 1;have f0:=f.frozen 0;have f1:=f.frozen 1;have al:=f.lt;cases oo;rotate_left
 .obtain⟨t,B,y,J,O4,V,X⟩:∃W,wr.setCell ⟨A,1,none⟩ (.bool (true))=W/\W.heap.size=wr.heap.size/\Blk W A 79 2 (λj=>(#[.slice a ys.length c,.bool (true)]:Array Value).getD j default)/\W.ownsRow L 5 1 (.slice a ys.length c) ys.length ys/\Blk W g 3 zs.length (λj => .int .i64 (zs.getD j 0))/\Below L w W :=
   ⟨_,rfl,by simp[World.setCell],(f.set 1 _).congr (λj m=>by match j,m with|0,_=>rfl|1,_=>rfl),xj hO f (by decide) 1 _,H.out.other (a:=⟨A,1,none⟩) (Blk.ne2 H.out f (by decide)) _,HB.out.setCell (p:=⟨A,1,none⟩) s.out _⟩
  obtain⟨q,l,i⟩:∃W,t.alloc (.cells #[.int .u8 (Z%256)] 5)=W/\Below t.heap.size t W:=⟨_,rfl,brf.alloc nlr _⟩;have E:Hid (L<=t.heap.size):=Qzx s.out (Nat.le_of_lt J.lt);have G:Hid (∀j u,([na Z]:List Value)[j]?=some u->q.cell? ((⟨wr.heap.size,0,none⟩:Addr).add j)=some u):=by
   intro j u m;have hl:j<1:=(List.getElem?_eq_some_iff.1 m).1;have h0:j=0:=by omega
   subst h0;rw[<-l,<-y];simp[Addr.add,na] at m ⊢;exact m
  have n:Hid (q.ownsRow L 5 1 (.slice a ys.length c) ys.length ys):=lv O4 i;have b:=qa3 (J.below i) (V.below i) (X.trans (i.mono E.out));have D:Hid (L<=q.heap.size):=Qzx E.out i.size;have z:Hid ((wr.setCell ⟨A,1,none⟩ (.bool (true))).alloc (.cells #[.int .u8 (Z%256)] 5)=q):=by rw[B];exact l
  have F:Hid (ys.length+1<=70368744177664):=by have:=HM.out;show _<=_;omega
  clear B l J O4 V X i f hO hys hoo af y;go_wp2_with(at_builtin;rw[z.out];refine wpList_append_own q rfl (.tmp 28) (.tmp 31) 77 rfl L 5 iB (.int .u8 0) 1 1 underlying77 ag ao ak ai rfl (by decide) (.slice a ys.length c) ys.length ys rfl n.out ⟨wr.heap.size,0,none⟩ 1 1 [na Z] rfl rfl G.out (λu Y=>by simp[na] at Y;subst Y;rfl) (by have:=F.out;unfold maxLen;omega) (by have:=F.out;omega) D.out ?_);intro v2 x K T _;obtain⟨P,c2,rfl,-⟩:=Ay K;have v:=Fv n.out T;have d:=v.blk b.out.1 (by decide);have M:=v.blk b.out.2.1 (by decide);have U:=v.below b.out.2.2 nlr D.out;have HF:Hid (te L A (x.setCell ⟨A,0,none⟩ (.slice P (ys.length+1) c2)) (true) (ys++[na Z])):=te.store d (by rw[show(ys++[na Z]).length=ys.length+1 by simp];exact K);have Q:Hid (Blk (x.setCell ⟨A,0,none⟩ (.slice P (ys.length+1) c2)) g 3 zs.length (λj => .int .i64 (zs.getD j 0))):=M.other (a:=⟨A,0,none⟩) (Blk.ne2 M d (by decide)) _;have ab:Hid (Below L w (x.setCell ⟨A,0,none⟩ (.slice P (ys.length+1) c2))):=U.setCell (p:=⟨A,0,none⟩) s.out _;have x0:x.cell? ⟨A,0,none⟩=some (.slice a ys.length c):=d.k 0;have x1:=d.frozen 0;have x2:=d.lt;clear K T v d M U b n G z c0 c1 f0 f1 al z0 z1
  try simp only[Act.put,Qvq,Qwx,Qwz]
  go_wp2_with fail;go_roundw
  case rel=>exact⟨k+1,by omega,by go_num,(by rw[HN.out.1,HN.out.2];exact HF),Q,ab⟩
  case measure=>simp[intOf];omega
 go_wp2_with fail;refine(ch Z 0 255 wr).mono ?_;rintro e w1 ⟨rfl,an⟩;rw[an];clear an;obtain⟨t,B,y,J,O4,V,X⟩:∃W,wr.setCell ⟨A,1,none⟩ (.bool (!inB Z 0 255))=W/\W.heap.size=wr.heap.size/\Blk W A 79 2 (λj=>(#[.slice a ys.length c,.bool (!inB Z 0 255)]:Array Value).getD j default)/\W.ownsRow L 5 1 (.slice a ys.length c) ys.length ys/\Blk W g 3 zs.length (λj => .int .i64 (zs.getD j 0))/\Below L w W :=
  ⟨_,rfl,by simp[World.setCell],(f.set 1 _).congr (λj m=>by match j,m with|0,_=>rfl|1,_=>rfl),xj hO f (by decide) 1 _,H.out.other (a:=⟨A,1,none⟩) (Blk.ne2 H.out f (by decide)) _,HB.out.setCell (p:=⟨A,1,none⟩) s.out _⟩
 obtain⟨q,l,i⟩:∃W,t.alloc (.cells #[.int .u8 (Z%256)] 5)=W/\Below t.heap.size t W:=⟨_,rfl,brf.alloc nlr _⟩;have E:Hid (L<=t.heap.size):=Qzx s.out (Nat.le_of_lt J.lt);have G:Hid (∀j u,([na Z]:List Value)[j]?=some u->q.cell? ((⟨wr.heap.size,0,none⟩:Addr).add j)=some u):=by
  intro j u m;have hl:j<1:=(List.getElem?_eq_some_iff.1 m).1;have h0:j=0:=by omega
  subst h0;rw[<-l,<-y];simp[Addr.add,na] at m ⊢;exact m
 have n:Hid (q.ownsRow L 5 1 (.slice a ys.length c) ys.length ys):=lv O4 i;have b:=qa3 (J.below i) (V.below i) (X.trans (i.mono E.out));have D:Hid (L<=q.heap.size):=Qzx E.out i.size;have z:Hid ((wr.setCell ⟨A,1,none⟩ (.bool (!inB Z 0 255))).alloc (.cells #[.int .u8 (Z%256)] 5)=q):=by rw[B];exact l
 have F:Hid (ys.length+1<=70368744177664):=by have:=HM.out;show _<=_;omega
 clear B l J O4 V X i f hO hys hoo af y;go_wp2_with(at_builtin;rw[z.out];refine wpList_append_own q rfl (.tmp 28) (.tmp 31) 77 rfl L 5 iB (.int .u8 0) 1 1 underlying77 ag ao ak ai rfl (by decide) (.slice a ys.length c) ys.length ys rfl n.out ⟨wr.heap.size,0,none⟩ 1 1 [na Z] rfl rfl G.out (λu Y=>by simp[na] at Y;subst Y;rfl) (by have:=F.out;unfold maxLen;omega) (by have:=F.out;omega) D.out ?_);intro v2 x K T _;obtain⟨P,c2,rfl,-⟩:=Ay K;have v:=Fv n.out T;have d:=v.blk b.out.1 (by decide);have M:=v.blk b.out.2.1 (by decide);have U:=v.below b.out.2.2 nlr D.out;have HF:Hid (te L A (x.setCell ⟨A,0,none⟩ (.slice P (ys.length+1) c2)) (!inB Z 0 255) (ys++[na Z])):=te.store d (by rw[show(ys++[na Z]).length=ys.length+1 by simp];exact K);have Q:Hid (Blk (x.setCell ⟨A,0,none⟩ (.slice P (ys.length+1) c2)) g 3 zs.length (λj => .int .i64 (zs.getD j 0))):=M.other (a:=⟨A,0,none⟩) (Blk.ne2 M d (by decide)) _;have ab:Hid (Below L w (x.setCell ⟨A,0,none⟩ (.slice P (ys.length+1) c2))):=U.setCell (p:=⟨A,0,none⟩) s.out _;have x0:x.cell? ⟨A,0,none⟩=some (.slice a ys.length c):=d.k 0;have x1:=d.frozen 0;have x2:=d.lt;clear K T v d M U b n G z c0 c1 f0 f1 al z0 z1
 try simp only[Act.put,Qvq,Qwx,Qwz]
 go_wp2_with fail;go_roundw
 case rel=>exact⟨k+1,by omega,by go_num,(by rw[HN.out.1,HN.out.2];exact HF),Q,ab⟩
 case measure=>simp[intOf];omega
end Go.Proofs.YtbcacebifpagpagGreat
