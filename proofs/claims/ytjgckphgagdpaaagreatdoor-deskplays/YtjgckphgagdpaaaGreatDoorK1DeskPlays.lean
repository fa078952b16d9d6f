/- Joined texts of DeskPlays. -/
import Derived.WalkKit
import Derived.Lib.Split
import Derived.Lib.ItoaMem
import Derived.Lib.AtoiAll
import Derived.Lib.Join
import Derived.Shelf.Strings.OnBuilder
import Derived.Shelf.Strings.BuilderF
import Derived.Shelf.Strings.BuilderK
import Derived.Shelf.LaysM
import Derived.Shelf.Strconv.Itoa3
import Derived.Shelf.LaysC
import Derived.Shelf.Strconv.AtoiAll
import Derived.Shelf.Strconv.ErrVarAll
import Derived.Shelf.Strings.Cut
import Derived.Shelf.Strings.Count
import Derived.Shelf.Strings.Prefix
import Derived.Shelf.Strings.Split
import Derived.Ground.Names2Prog
import Derived.Ground.SlgnProg
import Derived.Test.YtjgckphgagdpaaaGreatDoorProg
import Derived.Test.YtjgckphgagdpaaaGreatDoorRows
import Derived.Laws.EntriesVeiled
import Derived.WalkSpells
import Derived.WalkLawsBesides
import Derived.Deep.QuietTactic
import Derived.BigQuiet
import Derived.Deep.RegionHeld3
import Derived.Shelf.Abstract
import Derived.Maps.AppendAt
import Derived.Orders
import Derived.Lib.QuietBelow
import Derived.Lib.AppendZerosOnto
import Derived.Lib.Walk
import Derived.Lib.SliceRun
import Derived.Laws.AppendOwnNone
import Derived.Deep.OwnRows
set_option maxHeartbeats 2000000
set_option maxRecDepth 100000
set_option linter.unusedVariables false
namespace Go.Proofs.YtjgckphgagdpaaaGreatDoor
variable{n b A g l c i m q r j R C M u:Nat}{P:Prop}{w a w' d X:World}{W J K D:Int}{e t:TypeId}{f O:Nat->Value}{Q:Exit->Act->World->Prop}{v U:Value}{Z E:Int->Int->Int}{xs:List Value}{S:World->Prop}{z' zs:Nat->Int}{a1:Act}
open _root_.Go.Proofs.Tryz
open Go.RowKit
abbrev Qqq:=@Go.cell_regrown
abbrev Qqx:=@Go.regrown_of_below
abbrev Qqz:=@Go.wpQuiet_nil
abbrev Qxq:=@Go.wp_region_quiet_below
abbrev Qxx:=@Go.below_regrown
abbrev Qxz:=@Nat.zero_le
abbrev Qzq:=@Nat.not_lt_zero
abbrev Qzx:=@Nat.le_trans
abbrev Qzz:=@Int.eq_ofNat_of_zero_le
abbrev Qjq.{u}:=@List.forall_mem_nil.{u}
theorem Qjx.{u}{α:Type u}{p:α->Prop}{a:α}{l:List α}(h:p a/\∀x,x∈l->p x):∀x,x∈a::l->p x:=List.forall_mem_cons.2 h
theorem Qjz.{u}{α:Type u}[BEq α][LawfulBEq α]{a:α}{s:List α}(h:s.contains a=true):a∈s:=List.contains_iff_mem.1 h
theorem Qkq.{u}{α:Type u}{b:α}{s:Array α}(h:s[i]?=some b):∃h:i<s.size,s[i]=b:=Array.getElem?_eq_some_iff.1 h
abbrev Qkx.{u}:=@Option.some.injEq.{u}
abbrev Qkz:=@Go.Addr.mk.injEq
abbrev Qvq.{u}:=@List.setIfInBounds_toArray.{u}
abbrev Qvx.{u}:=@List.getElem?_cons_zero.{u}
abbrev Qvz.{u}:=@List.getElem?_toArray.{u}
abbrev Qwq.{u}:=@List.getElem?_cons_succ.{u}
abbrev Qwx.{u}:=@List.set_cons_succ.{u}
abbrev Qwz.{u}:=@List.set_cons_zero.{u}
abbrev Qyq.{u}:=@List.drop_succ_cons.{u}
abbrev Qyx.{u}:=@List.take_succ_cons.{u}
abbrev Qyz.{u}:=@List.take_zero.{u}
abbrev Xqq.{u}:=@List.drop_zero.{u}
abbrev Xqx.{u}:=@List.nil_append.{u}
abbrev Xqz.{u}:=@List.cons_append.{u}
abbrev Xxq:=@Bool.or_eq_false_iff
abbrev Xxx:=@Bool.and_eq_true
abbrev Xxz:=@Calls.regrown_of
abbrev Xzq:=@bodyPost_ret
abbrev Xzx:=@Nat.lt_of_lt_of_le
abbrev ow(h:P:=by omega):=h
abbrev dc(h:P:=by decide):=h
abbrev ko(h:P:=by kernel_rfl):=h
abbrev vo(h:P:=by go_num):=h
abbrev vq(h:P:=by simp):=h
abbrev oq(h:P:=by simp;omega):=h
abbrev uo(h:P:=by unfold maxLen;omega):=h
abbrev dy(h:P:=by dsimp only;omega):=h
theorem _root_.Go.RowKit.Hid.o{p:Prop}(h:Go.RowKit.Hid p):p:=h
abbrev Z2(h:P:=by rw[az dc] at h;rw[fo V _ dc];obtain⟨B,b1,b2,f,b3,b4⟩:=m.box h;exact⟨B,b1,b2,f,b3,λh9=>b4 (by rwa[az dc] at h9)⟩):=h
abbrev agq(h:P:=by obtain⟨B,-,h2,-,h4⟩:=h;rw[h2];intro x hx;rw[List.mem_singleton] at hx;rw[hx];exact(Qkq h4).1):=h
abbrev agr(h:P:=by rw[az dc] at h;rw[az dc] at h4;rw[fo V _ dc];exact m.m0 h h4):=h
abbrev axm(h:P:=by rw[hsame.num HR.o.fm hfn hgn];exact HR.o.fm.sh.num f (by rw[HR.o.fm.sh.n];exact hfn) g hgn):=h
abbrev axn(h:P:=by rw[Int.toNat_of_nonneg HMV.1.1,Int.toNat_of_nonneg HMV.2.1.1,Int.toNat_of_nonneg HMV.2.2.1.1]):=h
abbrev axo(h:P:=by obtain⟨⟨dq,fj⟩,cy⟩:=a1;subst cy;exact hB.trans ((Qxx _ _ _).mono hB.size)):=h
abbrev axp(h:P:=by rw[az dc] at h;rw[az dc,az dc];exact b.o10 h):=h
abbrev agw(h:P:=by rw[az dc] at h;rw[az dc,az dc];exact g.c14 h):=h
abbrev axq(h:P:=by rw[(hsame.on.2 f x0f).1,HR.o.fm.sh.len f (by rw[HR.o.fm.sh.n];exact hfn)];exact hgn):=h
abbrev axr(h:P:=by show cp s i=false;rw[HE2.o];exact dj λj' hj'=>HM.o j' ow):=h
abbrev asc(h:P:=by rw[(hsame.on.2 b x0b).1,HR.o.fm.sh.len b (by rw[HR.o.fm.sh.n];exact hb)];exact gl):=h
abbrev asd(h:P:=by show inB n 0 (s.ms.z (i:Int).toNat).n=true;rw[Int.toNat_natCast,HM.o];exact h2):=h
abbrev Wz(h:P:=by rw[az dc] at h;rw[fo V _ dc] at G;exact A h B G):=h
abbrev Xa(h:P:=by simp[results,results16,go_sem,St.val,br,bs,S,bt,bv,bx,bz]):=h
abbrev ase(h:P:=by simp[results,results74,go_sem,St.val,ff,fg,fj,fk,fl,fn,fo]):=h
abbrev asf(h:P:=by show(x2.on.r b).z g=_;rw[<-hx2,Ie,if_neg (λe=>hne e.1.symm)]):=h
abbrev Lv(h:P:=by rw[az dc] at h;rw[fo V _ dc];exact m.e10 h):=h
abbrev Sa(h:P:=by rw[az dc] at h;rw[fo V _ dc];exact g.e12 h):=h
abbrev Sf(h:P:=by rw[az dc] at h;rw[fo V _ dc];exact g.e15 h):=h
abbrev Xb(h:P:=by rw[az dc] at h;rw[fo V _ dc];exact g.box h):=h
abbrev Lw(h:P:=by rw[az dc] at h;exact⟨up 4 (m.c9 h).1,up 8 (m.c9 h).2⟩):=h
abbrev Lx(h:P:=by rw[az dc] at h;rw[fo V _ dc];exact m.e4 h):=h
abbrev Ly(h:P:=by rw[az dc] at h;rw[fo V _ dc];exact m.e5 h):=h
abbrev Lz(h:P:=by rw[az dc] at h;rw[fo V _ dc];exact m.e6 h):=h
abbrev L3(h:P:=by rw[az dc] at h;rw[fo V _ dc];exact m.e7 h):=h
abbrev asg(h:P:=by show _=_;rw[Int.toNat_natCast,HM.o];simp only[Int.toNat_natCast]):=h
abbrev ash(h:P:=by obtain⟨j,c,e⟩:=Bz a;rw[<-e];exact(h.pos j ow).1):=h
abbrev asi(h:P:=by show(if l.length=3 then _ else none)=none;exact if_neg ow):=h
abbrev asj(h:P:=by show(if l.length=0 then _ else none)=none;exact if_neg ow):=h
abbrev ask(h:P:=by have:=U.o.1.size;have:=cx.o.1.choose_spec.2.bel.size;omega):=h
abbrev Xc(h:P:=by rw[az dc] at h;rw[fo V _ dc];exact g5 h):=h
abbrev S0(h:P:=by rw[az dc] at h;rw[fo V _ dc];exact r h):=h
abbrev Xd(h:P:=by obtain⟨⟨dq,osq⟩,hw''⟩:=hw9;subst hw'';exact Qxx _ _ _):=h
abbrev asl(h:P:=by simp[ju,ou] at hu;rcases hu with rfl|rfl|rfl|rfl<;>rfl):=h
abbrev asm(h:P:=by have I:=HSI.o.allocIn HK2.o;exact I.less ⟨I.n0,Int.le_refl _⟩):=h
abbrev asn(h:P:=by simp[results,results39,go_sem,O1,Ax.val,Ax.cells,jt]):=h
abbrev aso(h:P:=by show ¬1048576<s.so.z (cf s o l)+n;rw[HG.o];exact h3):=h
abbrev asp(h:P:=by simp[dt] at hu;rcases hu with rfl|rfl|rfl|rfl<;>rfl):=h
abbrev Ih(h:P:=by obtain⟨a,c,h1,h2⟩:=h.2.2.1 e;exact⟨a,c,h1,h2.below L⟩):=h
abbrev asq(h:P:=by show 1048576<s.so.z (cf s o l)+n;rw[HG.o];exact h3):=h
abbrev asr(h:P:=by have h:=(d6.o.below L.o).hds;rw[b0.o] at h;exact h):=h
abbrev Xe(h:P:=by show _+(if f h then _ else _)=_;rw[if_neg c,Int.add_zero]):=h
abbrev Ii(h:P:=by obtain⟨a,c,h1,h2⟩:=h.2.1 e;exact⟨a,c,h1,h2.below L⟩):=h
abbrev Xf(h:P:=by have h:=r1;rw[Nat.zero_add,Xqx] at h;exact h):=h
abbrev L4(h:P:=by simp[results,results39,go_sem,Ax.val,Ax.cells,jt]):=h
abbrev ass(h:P:=by simp only[List.mem_cons,List.not_mem_nil,or_false];omega):=h
abbrev ast(h:P:=by simp[dt] at hu;rcases hu with rfl|rfl|rfl<;>rfl):=h
abbrev asu(h:P:=by rw[(hsame.on.2 b x0b).1,HR.o.fm.sh.len b onn];exact hgn):=h
abbrev asv(h:P:=by have h:=(d6.o.below hX).hds;rw[b0.o] at h;exact h):=h
abbrev asw(h:P:=by show _=Ending.returned (.slice s.hs.a _ _);rw[ha];rfl):=h
abbrev asx(h:P:=by rw[Fu hk0,Lr ow hno,hbad];simp):=h
abbrev ags(h:P:=by obtain⟨_,_,h1,_⟩:=h;rw[h1];intro x hx;simp at hx):=h
abbrev asy(h:P:=by have:=List.all_eq_true.1 hTB.1.2 r hr;simpa using this):=h
abbrev Bm(h:P:=by obtain⟨_,h1,_⟩:=h;rw[h1];intro x hx;simp at hx):=h
abbrev asz(h:P:=by rw[HV.o.1,HV.o.2,<-Int.add_sub_assoc];exact h3):=h
abbrev as0(h:P:=by rw[az dc] at h;exact HG.o.2.2.2.2 h):=h
abbrev Ox(h:P:=by rw[az dc] at h;exact up 0 (m.c4 h)):=h
abbrev as1(h:P:=by rw[h.revM];exact ad1 (Gf _ r.movesP h0)):=h
abbrev agt(h:P:=by show _+(if f h then _ else _)=_;rw[if_pos c]):=h
abbrev as2(h:P:=by rw[fo V _ dc];exact HG.o.2.2.1):=h
abbrev S3(h:P:=by rw[az dc] at h ⊢;exact g.c11 h):=h
abbrev S4(h:P:=by rw[az dc] at h ⊢;exact g.c12 h):=h
abbrev S5(h:P:=by rw[az dc] at h ⊢;exact g.c10 h):=h
abbrev as3(h:P:=by rw[hsame.num HR.o.fm hbn hgn,hZB];exact zb):=h
abbrev agu(h:P:=by rw[aiu _ _ _ _ ow];simp[ba]):=h
abbrev as4(h:P:=by simp[List.getD,List.getElem?_eq_getElem hlt]):=h
abbrev Oy(h:P:=by intro k hk;simp[Value.ownBlock] at hk;omega):=h
abbrev as5(h:P:=by rw[co.o,<-HQ.o.1,HQ.o.2];exact d9):=h
abbrev Xg(h:P:=by simp[List.getD,List.getElem?_eq_getElem hk]):=h
abbrev agv(h:P:=by obtain⟨x,_,rfl⟩:=List.mem_map.1 hu;rfl):=h
abbrev as6(h:P:=by rw[me,ir hlt G.o];rfl):=h
abbrev as7(h:P:=by rw[(tj s o l b n o).2];exact h.hd.ln):=h
abbrev agx(h:P:=by rw[hE.o.1,hE.o.2.1];exact HR.o.2.1):=h
abbrev as8(h:P:=by rw[az dc,h8] at h;cases h):=h
abbrev as9(h:P:=by rw[<-hW9];exact Zi wj ⟨X,T,0,0⟩ _):=h
abbrev ata(h:P:=by have:=ek.o;have:=HR.o.2.2;omega):=h
abbrev atb(h:P:=by rw[hsame.on.1,HR.o.fm.sh.n];exact hfn):=h
abbrev atc(h:P:=by rw[hsame.on.1,HR.o.fm.sh.n];exact hbn):=h
abbrev atd(h:P:=by show W0.heap.size<=G;have:=h.w0;omega):=h
abbrev agy(h:P:=by have:=hb.size;have:=h.le;simp;omega):=h
abbrev ate(h:P:=by rw[hsame.on.1,HR.o.fm.sh.n];exact hb):=h
abbrev atf(h:P:=by show ¬_;rw[Bd h0];exact h0):=h
abbrev atg(h:P:=by rw[(HX9.o.1.os.2 o ho1).2.1];exact hl):=h
abbrev agz(h:P:=by rw[hm i ow];exact Nat.le_refl _):=h
abbrev ath(h:P:=by rw[e1,List.length_append,HIE.o];rfl):=h
abbrev ati(h:P:=by rw[HA.o];exact afx own a0.o):=h
abbrev atj(h:P:=by show i+1<=maxLen;unfold maxLen;omega):=h
abbrev atk(h:P:=by have:=HR.o.2.2.lt;dsimp only;omega):=h
abbrev atl(h:P:=by rw[Int.toNat_natCast,HM.o];exact h2):=h
abbrev atm(h:P:=by show ¬_;rw[Cp h0];exact h0):=h
abbrev ag0(h:P:=by have:=HE8.o;simpa[set7] using this):=h
abbrev ag1(h:P:=by rw[<-(tj s o l b n i).2];exact hj):=h
abbrev atn(h:P:=by rw[HF.o.sh.n];exact HF.o.sh.pl.nb6):=h
abbrev ato(h:P:=by rw[aiv _ _ _ _ an];simp[ba]):=h
abbrev atp(h:P:=by show ¬_;rw[Dx h0];exact h0):=h
abbrev S6(h:P:=by show W0.heap.size<=w4.heap.size;omega):=h
abbrev atq(h:P:=by have:=d.size;simp at this ⊢;omega):=h
abbrev atr(h:P:=by show g<o.si.n;rw[HIN.o];exact hg):=h
abbrev ag2(h:P:=by simp[fk,B.o.1,B.o.2,K]):=h
abbrev ats(h:P:=by rw[f.o.2.2.2.2.2.sf.1];exact sfn):=h
abbrev aj3(h:P:=by unfold hc;rw[hc2 (j/4) ow]):=h
abbrev aj4(h:P:=by rw[i.o.fm.sh.len b xb];exact E):=h
abbrev aj5(h:P:=by show _=W0;rw[<-hW0,St.cells,hoa]):=h
abbrev aj6(h:P:=by rw[Ab n z i T];simp[F9]):=h
abbrev aj7(h:P:=by rw[Go.WideShapes.add_plain];exact hb):=h
abbrev aj8(h:P:=by rw[fo V _ dc];exact g5):=h
abbrev Jl(h:P:=by rw[fo V _ dc];exact z):=h
abbrev aj9(h:P:=by rw[HZ.o.1] at e;simp at h1;omega):=h
abbrev aka(h:P:=by rw[HZ.o.2] at e;simp at h2;omega):=h
abbrev akb(h:P:=by rw[hga] at hg1;simpa using hg1.symm):=h
abbrev akc(h:P:=by rw[x.o,B,J,k3,k4,k5];rfl):=h
abbrev akd(h:P:=by show n-(i+1)<=c-(i+1);omega):=h
abbrev ake(h:P:=by have:=HKx.o.le;simpa using this):=h
abbrev Ej(h:P:=by rw[List.mem_singleton] at hx;omega):=h
abbrev akf(h:P:=by rw[hsame.os.1];exact HR.o.fm.os4):=h
abbrev R7(h:P:=by have:=hB.size;simp at this;omega):=h
abbrev akg(h:P:=by have:=HK.o.le;simpa using this):=h
abbrev akh(h:P:=by rw[Nat.zero_add];exact hb.cell hi):=h
abbrev aki(h:P:=by unfold pb;rw[if_neg ow]):=h
abbrev Jm(h:P:=by rw[az dc];exact h6):=h
abbrev Z3(h:P:=by rw[az dc];exact Q):=h
abbrev akj(h:P:=by have:=d.size;simpa using this):=h
abbrev akk(h:P:=by rw[c m];exact if_pos ow):=h
abbrev akl(h:P:=by rw[<-(h.os.2 i hi).2.1];exact hj):=h
abbrev akm(h:P:=by rw[HE2.o];exact ir hlj h):=h
abbrev akn(h:P:=by rw[Nat.zero_add];exact h.cell hi):=h
abbrev Jn(h:P:=by show _=_;rw[U.o,hc];simp):=h
abbrev ako(h:P:=by have:=HN.o;show _<=_;omega):=h
abbrev akp(h:P:=by rw[HZ.o.2.1];exact HZ.o.2.2):=h
abbrev Z4(h:P:=by rw[hs0,List.length_take];omega):=h
abbrev akq(h:P:=by rw[Array.toList_push];simp[hx]):=h
abbrev akr(h:P:=by rw[h.1,hke];exact C4 _ _):=h
abbrev aks(h:P:=by have:=P.al.osn;exact this▸hi):=h
abbrev Z6(h:P:=by rw[x.o,B,J,k3,k4];rfl):=h
abbrev Z7(h:P:=by rw[HN.o];unfold maxLen;omega):=h
abbrev Z8(h:P:=by rw[<-hW1];exact brf.alloc nlr _):=h
abbrev Z9(h:P:=by have:=hB.size;simpa using this):=h
abbrev akt(h:P:=by show _=_;rw[HQ.o,hx];rfl):=h
abbrev aku(h:P:=by have:=C7 s.hs bad;omega):=h
abbrev akv(h:P:=by rw[H.o,m.o,L,M];rfl):=h
abbrev R8(h:P:=by have:=m.le;simpa using this):=h
abbrev Jo(h:P:=by rw[h.1];intro x hx;simp at hx):=h
abbrev akw(h:P:=by rw[h.heap];exact Nat.le_refl _):=h
abbrev akx(h:P:=by show c-(i+1)<=maxLen;omega):=h
abbrev aky(h:P:=by rwa[az dc] at h9):=h
abbrev akz(h:P:=by rw[List.take_add_one,hx];rfl):=h
abbrev ak0(h:P:=by rw[hn1];have:=HJ.o;omega):=h
abbrev j9(h:P:=by rcases h with h|h<;>cases h):=h
abbrev ak1(h:P:=by rw[hsz];exact(hrem' i hir).1):=h
abbrev ak2(h:P:=by rw[i.o.fm.sh.n];exact t):=h
abbrev Cw(h:P:=by rw[beq_eq_false_iff_ne];omega):=h
abbrev ak3(h:P:=by rw[e.si.1,r.fm.sin];exact hg):=h
abbrev ak4(h:P:=by rw[HS.o,HXE.o,hbd];simp):=h
abbrev ts(h:P:=by rwa[az dc] at h):=h
abbrev pq(h:P:=by rw[h.1];intro x hx;cases hx):=h
abbrev A9(h:P:=by have:=h.le;simpa using this):=h
abbrev azf(h:P:=by rw[HR.o.fm.sh.n];exact hfn):=h
abbrev ak5(h:P:=by rw[HR.o.fm.sh.n];exact hbn):=h
abbrev R9(h:P:=by have:=(ar k1).2;omega):=h
abbrev aaa(h:P:=by have:=(ar k2).2;omega):=h
abbrev ak6(h:P:=by rw[<-HS0.o.os.1];exact hlt):=h
abbrev ak7(h:P:=by rw[HS.o,HXE.o,hbd];rfl):=h
abbrev Nw(h:P:=by have:=(ar h1).2;omega):=h
abbrev ak8(h:P:=by have:=(ar h2).2;omega):=h
abbrev pr(h:P:=by show ¬_;rw[HX.o];decide):=h
abbrev ak9(h:P:=by rw[HZ.o.1];simpa using h1):=h
abbrev ala(h:P:=by rw[HZ.o.2];simpa using h2):=h
abbrev G6(h:P:=by show W0.heap.size<=B7;omega):=h
abbrev azg(h:P:=by rw[HR.o.fm.sh.n];exact hb):=h
abbrev alb(h:P:=by show W0.heap.size<=GS;omega):=h
abbrev Cx(h:P:=by show W0.heap.size<=BL;omega):=h
abbrev Sb(h:P:=by show W0.heap.size<=gO;omega):=h
abbrev alc(h:P:=by show W0.heap.size<=BC;omega):=h
abbrev aab(h:P:=by rw[hc1.cell ow];rfl):=h
abbrev ald(h:P:=by rw[HX9.o.1.os.1];exact ho):=h
abbrev Sc(h:P:=by show _/\_;dsimp only;omega):=h
abbrev ale(h:P:=by show W0.heap.size<=Gi;omega):=h
abbrev Sd(h:P:=by rw[x.o,B,J,k3];rfl):=h
abbrev Se(h:P:=by rw[qp] at h;cases h):=h
abbrev Jp(h:P:=by show W0.heap.size<=G;omega):=h
abbrev alf(h:P:=by rw[HR.o.fm.sfn];exact hg):=h
abbrev alg(h:P:=by rw[hd];exact Qxz _):=h
abbrev alh(h:P:=by rw[List.length_take];omega):=h
abbrev ali(h:P:=by rw[h.r.fm.sh.n];exact h.bn):=h
abbrev alj(h:P:=by rw[<-Di k i];exact hj):=h
abbrev alk(h:P:=by rw[h.si.1,f.sin];exact hg):=h
abbrev alm(h:P:=by rw[h.so.1,f.son];exact hg):=h
abbrev alo(h:P:=by rw[h.sf.1,f.sfn];exact hg):=h
abbrev alp(h:P:=by rw[e1];show 0<l.n;omega):=h
abbrev Ek(h:P:=by have:=hB.size;simp;omega):=h
abbrev aac(h:P:=by rw[HE.o.1,HE.o.2];rfl):=h
abbrev alq(h:P:=by rw[HM.o,Int.sub_sub _ U]):=h
abbrev alr(h:P:=by rw[hE.o.1,hE.o.2];rfl):=h
abbrev als(h:P:=by unfold pb;rw[if_pos J]):=h
abbrev alt(h:P:=by show 0+1<=100000;decide):=h
abbrev Sg(h:P:=by rw[hE.o.2.2,HR.o.2.2]):=h
abbrev alu(h:P:=by rw[<-a7.o.1];exact h0):=h
abbrev G7(h:P:=by show _<x.hs.n*4;omega):=h
abbrev aad(h:P:=by show _<x.ms.n*4;omega):=h
abbrev Si(h:P:=by have:=ar h1;omega):=h
abbrev aae(h:P:=by rw[HF.o.sh.n];exact hb):=h
abbrev El(h:P:=by show _=_;rw[bu];rfl):=h
abbrev Sj(h:P:=by simp at hu;subst hu;rfl):=h
abbrev aaf(h:P:=by have:=HF.o.os4;omega):=h
abbrev Nx(h:P:=by rw[hsame.os.1];exact ho):=h
abbrev aag(h:P:=by unfold ru at e;omega):=h
abbrev Sk(h:P:=by rw[Q.o,m1,m2];rfl):=h
abbrev Sl(h:P:=by rw[HF.o.sin];exact hg):=h
abbrev aah(h:P:=by rw[x.o,B,J];rfl):=h
abbrev aai(h:P:=by have:=bh.o.jm;omega):=h
abbrev Sm(h:P:=by have:=hB35.size;omega):=h
abbrev aaj(h:P:=by rw[uk];exact h1):=h
abbrev Sn(h:P:=by show 0<x0.os.n;omega):=h
abbrev aak(h:P:=by have:=HS.o.1;omega):=h
abbrev Jq(h:P:=by rw[<-h.on.1];exact hi):=h
abbrev So(h:P:=by rw[<-h.os.1];exact hi):=h
abbrev aal(h:P:=by rw[f.sh.n];exact hbin):=h
abbrev aam(h:P:=by rw[Q.o];exact own):=h
abbrev Sp(h:P:=by rw[HSN.o];exact h3):=h
abbrev aan(h:P:=by rw[if_neg ow]):=h
abbrev aao(h:P:=by rw[<-e.2.1];exact hj):=h
abbrev aap(h:P:=by rw[e.2.1];exact h.ln):=h
abbrev aaq(h:P:=by rw[HIN.o];exact hg):=h
abbrev Jr(h:P:=by have:=hB.size;omega):=h
abbrev aar(h:P:=by rw[<-HMN.o];omega):=h
abbrev Ny(h:P:=by rw[F.sh.n];exact hb):=h
abbrev G8(h:P:=by rw[f.sh.n];exact hb):=h
abbrev Js(h:P:=by rw[h.hs.1];exact hj):=h
abbrev Nz(h:P:=by rw[h.ms.1];exact hj):=h
abbrev Sq(h:P:=by rw[h.os.1];exact hi):=h
abbrev aas(h:P:=by rw[iz];omega):=h
abbrev aat(h:P:=by rw[HQ.o,hx];rfl):=h
abbrev Ba(h:P:=by intro k hk;cases hk):=h
abbrev Cy(h:P:=by simp[intOf];omega):=h
abbrev Sr(h:P:=by simp at h1 ⊢;omega):=h
abbrev Ss(h:P:=by simp at h2 ⊢;omega):=h
abbrev Su(h:P:=by rw[HN0.o];omega):=h
abbrev aau(h:P:=by rw[HL0.o];omega):=h
abbrev aav(h:P:=by rw[<-hn];exact hj):=h
abbrev aaw(h:P:=by rw[yt];omega):=h
abbrev aax(h:P:=by rw[HIE.o];omega):=h
abbrev Sv(h:P:=by cases e;exact h1l):=h
abbrev aay(h:P:=by rw[H];exact hg):=h
abbrev Sw(h:P:=by rw[HN.o];omega):=h
abbrev aaz(h:P:=by rw[an,e];simp):=h
abbrev aa0(h:P:=by simp[yv];omega):=h
abbrev aa1(h:P:=by rw[hE.o.1];rfl):=h
abbrev Jt(h:P:=by simp at h1;omega):=h
abbrev aa2(h:P:=by simp at h2;omega):=h
abbrev aa3(h:P:=by show i<=c;omega):=h
abbrev Em(h:P:=by rw[bne,D];rfl):=h
abbrev ja(h:P:=by rw[HX.o];rfl):=h
abbrev N0(h:P:=by rw[H0.o];rfl):=h
abbrev aa4(h:P:=by rw[e];exact h2):=h
abbrev aa5(h:P:=by rw[HE.o];rfl):=h
abbrev aa6(h:P:=by rw[hE.o];rfl):=h
abbrev Ju(h:P:=by rw[hz2];omega):=h
abbrev aa7(h:P:=by simpa using hlo):=h
abbrev Sx(h:P:=by simpa using bd):=h
abbrev aa8(h:P:=by simpa using h.1):=h
abbrev G9(h:P:=by simp[St.cells]):=h
abbrev aa9(h:P:=by rw[HR.o.2.1]):=h
abbrev qh(h:P:=by simpa using h0):=h
abbrev Jv(h:P:=by simpa using hj):=h
abbrev aba(h:P:=by rw[h];decide):=h
abbrev Bb(h:P:=by simpa using h2):=h
abbrev xp(h:P:=by simpa using h1):=h
abbrev Ha(h:P:=by simpa using hk):=h
abbrev Sy(h:P:=by rw[iz]):=h
abbrev Hb(h:P:=by simpa using h):=h
abbrev Jw(h:P:=by rw[e];simp):=h
abbrev Hc(h:P:=by rw[HM.o]):=h
abbrev Cz(h:P:=by assumption):=h
abbrev qm(h:P:=by simp at hx):=h
abbrev Sz(h:P:=by simp at hj):=h
abbrev He(h:P:=by simp[hj]):=h
abbrev sy(h:P:=by cases hx):=h
abbrev N3(h:P:=by simp[e]):=h
abbrev ix(h:P:=by cases h):=h
abbrev En(h:P:=by cases e):=h
abbrev axs(h:P:=by
 clear Y z1 W c1 l2 hb hBw
 go_loopw [10] (λi0 m=>∃k:Nat,k<=A.n/\i0 = .int .i64 k/\(∀j,j<k->dh H (A.z j) (keptS s.hs.z i j s.hs.n)=false)/\Bw W0 m) (λi0 _=>A.n-(intOf i0).toNat)
 case atStart=>exact⟨0,Qxz _,rfl,λj hj=>absurd hj (Qzq _),hB⟩
 clear hB;obtain⟨j,hj,rfl,J,hB⟩:=hrel;have HM:=hid J;clear J;obtain⟨Y,z1,W,c1,l2,hb,hBw,au,c2⟩:=HL.o wr hB;by_cases hlj:j<A.n;rotate_left
 .have HA:Hid (cp s i=false):=axr;clear Y au c2 hBw W;go_wp2_with fail;go_roundw
  case rel=>exact⟨i+1,ow,vo,Hp HN.o HA.o,hB⟩
  case measure=>simp[intOf];omega
 obtain⟨b2,o2,av,cm,y0,y1,y2,y3⟩:=W.hds j hlj;have qj:(0:Int)<=(j:Int):=ow;obtain⟨k1,k2,k3⟩:=dk.o j hlj;have HT:Hid (dh H (A.z j) (keptS s.hs.z i j s.hs.n)=true->l9 p s=false):=λh=>Zx hlt akm;have HU:Hid (dh H (A.z j) (keptS s.hs.z i j s.hs.n)=false->∀j',j'<j+1->dh H (A.z j') (keptS s.hs.z i j' s.hs.n)=false):=λh=>Hp HM.o h;rw[av] at z1;have di:Hid (∀m,Bw wr m->Calls prog 215 #[.slice s.hs.a s.hs.n s.hs.c,.int .i64 i,.int .i64 j] m λe w'=>e = .returned (.int .i64 (keptS s.hs.z i j s.hs.n))/\w'=m):=λm h=>ael s.hs i j m (au.below h) HF.o.hold;have r0:=Qqq c1;have r1:=Qqq z1;have r2:=Qqq y0;have r3:=Qqq y1;have r4:=Qqq y2;have r5:=Qqq y3;have r6:=Qqq c2;clear av W y0 y1 y2 y3 au c2 Y HM hBw
 generalize keptS s.hs.z i j s.hs.n=E at *
 generalize A.z j=q at *
 go_wp2_with fail;refine dg (λw'=>∃p:Regrown,w'=grow (redrawn wr p.d) p.os) (List.range 13) [13,14] [(false,15),(true,16)] (Qqx (brf.drew)) ?_;rw[show List.range 13=[0,1,2,3,4,5,6,7,8,9,10,11,12] from rfl];simp only[jg]
 repeat(go_big_quiet_step(fail))
 refine Qqz ?_;refine⟨λj v gg m=>match j with|13=>v = .int .i64 E/\gg=[]|14=>∃B,v = .pointer (some ⟨B,0,none⟩)/\gg=[B]/\wr.heap.size<=B/\Blk m B 115 4 (λ_ => .int .i64 0)|_=>True,Qjx ⟨?m13,Qjx ⟨?m14,Qjq _⟩⟩,Qjx ⟨?l13,Qjx ⟨?l14,Qjq _⟩⟩,Qjx ⟨?s13,Qjx ⟨?s14,Qjq _⟩⟩,?done⟩
 case m13=>intro v g w w' _ h;exact h
 case m14=>intro v g w w' hB h;obtain⟨B,h1,h0,D,h3⟩:=h;exact⟨B,h1,h0,D,h3.below hB⟩
 case l13=>intro v g w h;rw[(show v = .int .i64 E/\g=[] from h).2];intro x hx;cases hx
 case l14=>intro v g w h;obtain⟨B,h1,h0,D,h3⟩:=h;rw[h0];intro x hx;rw[List.mem_singleton] at hx;rw[hx];exact h3.lt
 case s13 =>
  intro V G m K hS hd hK;obtain⟨pp,rfl⟩:=hS;refine ai _ rfl ?_;simp only[bw] at hK ⊢;go_wp2_with fail;refine(di.o _ (Qxx _ _ _)).mono ?_;rintro e w' ⟨rfl,rfl⟩;go_wp2_with fail;exact hK _ [] _ ⟨pp,rfl⟩ brf (λx hx=>sy) ⟨rfl,rfl⟩
 case s14 =>
  intro V G m K hS hd hK;have hX:=ae hS;refine ai _ rfl ?_;simp only[bw] at hK ⊢;go_wp2_with fail;exact hK _ [m.heap.size] _ (Qqx (hX.alloc hX.size _)) (brf.alloc nlr _) (λx hx=>Ej) ⟨m.heap.size,rfl,rfl,hX.size,(Blk.mk' (cur:=#[.int .i64 0,.int .i64 0,.int .i64 0,.int .i64 0]) rfl rfl).congr (λj hj=>by match j,hj with|0,_=>rfl|1,_=>rfl|2,_=>rfl|3,_=>rfl)⟩
 case done =>
  intro V G m hS hD hA;have ci:=(show V 13 = .int .i64 E/\G 13=[] from hD 13 vq).1;have a6:∃B,V 14 = .pointer (some ⟨B,0,none⟩)/\G 14=[B]/\wr.heap.size<=B/\Blk m B 115 4 (λ_ => .int .i64 0):=hD 14 vq;obtain⟨B4,a6,-,cj,hY⟩:=a6;have hX:=ae hS;clear hS hD hA r0 r1 r2 r3 r4 r5 r6;have dy:=hY.lt;have f0:=hY.frozen 0;have f1:=hY.frozen 1;have f2:=hY.frozen 2;have f3:=hY.frozen 3;have e0:=hY.k 0;have e1:=hY.k 1;have e2:=hY.k 2;have e3:=hY.k 3;simp only[bw,ci,a6];refine bu 15 rfl ?_;go_wp2_with fail;obtain⟨W5,ck,bk,al⟩:=adk hY hX cj q;rw[ck];refine⟨fw.no (Qqx bk),?_⟩;refine bu 16 rfl ?_;go_wp2_with fail;refine⟨fw.yes,?_⟩;refine NoPanic.normal ?_;have a7:=hB.trans (bk.mono hB.size);have t0:W5.cell? ⟨B4,0,none⟩=some (.int .i64 q.o):=al.cell (j:=0) vq;have t1:W5.cell? ⟨B4,1,none⟩=some (.int .i64 q.l):=al.cell (j:=1) vq;have t2:W5.cell? ⟨B4,2,none⟩=some (.int .i64 q.b):=al.cell (j:=2) vq;have t3:W5.cell? ⟨B4,3,none⟩=some (.int .i64 q.n):=al.cell (j:=3) vq;have ez:=al.lt;clear bk ck al hX hY f0 f1 f2 f3 e0 e1 e2 e3 ci a6 dy cj z1 c1 l2 hb cm hB;obtain⟨Y,z1,W,c1,l2,hb,hBw,au,c2⟩:=HL.o W5 a7;clear W au c2 z1;have y:H=0\/H=1\/H=2:=ow;have S:Hid (∀b,H=0->(q.b+q.n+E==0)=b->dh H q E = !b):=λb h D=>by rw[h,wL0 k1 k2 k3,D]
  have T:Hid (∀b,H=1->(q.b+q.n+E==q.l)=b->dh H q E = !b):=λb h D=>by rw[h,wL1,D]
  have M:Hid (∀b c,H=2->(q.b+q.n+E==q.l)=b->(E==0)=c->dh H q E=(!b || !c)):=λb c h D h3=>by rw[h,wL2,D,h3]
  generalize dh H q E=WL at *
  rcases y with y|y|y
  .cases D:(q.b+q.n+E==0)
   .have HX:Hid (l9 p s=false):=HT.o (S.o _ y D);have n2:(q.b+q.n+E !=0)=true:=Em;rw[y] at Y;clear S T M HT HU y;go_wp2_with fail;go_ret;exact⟨ja,hBw⟩
   have HX:=HU.o (S.o _ y D);have n2:(q.b+q.n+E !=0)=false:=Em;have ad:Hid _:=HX;rw[y] at Y;clear S T M HT HU y HX;go_wp2_with fail;go_roundw
   case rel=>exact⟨j+1,ow,vo,ad.o,a7⟩
   case measure=>simp[intOf];omega
  .cases D:(q.b+q.n+E==q.l)
   .have HX:Hid (l9 p s=false):=HT.o (T.o _ y D);have n2:(q.b+q.n+E !=q.l)=true:=Em;rw[y] at Y;clear S T M HT HU y;go_wp2_with fail;go_ret;exact⟨ja,hBw⟩
   have HX:=HU.o (T.o _ y D);have n2:(q.b+q.n+E !=q.l)=false:=Em;have ad:Hid _:=HX;rw[y] at Y;clear S T M HT HU y HX;go_wp2_with fail;go_roundw
   case rel=>exact⟨j+1,ow,vo,ad.o,a7⟩
   case measure=>simp[intOf];omega
  cases D:(q.b+q.n+E==q.l)
  .have HX:Hid (l9 p s=false):=HT.o (M.o _ _ y D rfl);have n2:(q.b+q.n+E !=q.l)=true:=Em;rw[y] at Y;clear S T M HT HU y;go_wp2_with fail;go_ret;exact⟨ja,hBw⟩
  cases h3:(E==0)
  .have HX:Hid (l9 p s=false):=HT.o (M.o _ _ y D h3);have n2:(q.b+q.n+E !=q.l)=false:=Em;have n3:(E !=0)=true:=by rw[bne,h3];rfl
   rw[y] at Y;clear S T M HT HU y;go_wp2_with fail;go_ret;exact⟨ja,hBw⟩
  have HX:=HU.o (M.o _ _ y D h3);have n2:(q.b+q.n+E !=q.l)=false:=Em;have n3:(E !=0)=false:=by rw[bne,h3];rfl
  have ad:Hid _:=HX;rw[y] at Y;clear S T M HT HU y HX;go_wp2_with fail;go_roundw
  case rel=>exact⟨j+1,ow,vo,ad.o,a7⟩
  case measure=>simp[intOf];omega):=h
abbrev axt(h:P:=by
 obtain⟨T,m⟩:∃T,wr.heap.size=T:=⟨_,rfl⟩;rw[m] at B ⊢;have HD:Hid (∀g,Bw S g->d.At g/\g.cell? ⟨T,0,none⟩=some (.int .i64 q)/\T<g.heap.size/\Bw x g):=λg h=>⟨ai.below h,(B.below h).k 0,(B.below h).lt,ad.trans (h.mono ad.size)⟩;clear ai B hl X av z0 z1 m HB hb
 go_loopw [29] (λi0 g=>∃k:Nat,k<=d.n/\i0 = .int .i64 k/\(∀j,j<k->dh q (d.z j) (keptS s.hs.z i j s.hs.n)=false)/\Bw S g) (λi0 _=>d.n-(intOf i0).toNat)
 case atStart=>exact⟨0,Qxz _,rfl,λj hj=>absurd hj (Qzq _),Below.refl _ _⟩
 obtain⟨j,hj,rfl,D,A⟩:=hrel;have HM:=hid D;clear D;by_cases aj:j<d.n;rotate_left
 .have HA:Hid (cp s i=false):=axr;have u:=(HD.o wr A).2.2.2;go_wp2_with fail;go_roundw
  case measure=>simp[intOf];omega
  refine⟨i+1,ow,vo,?_,u⟩;intro j' hj';by_cases af:j'=i
  .rw[af];exact HA.o
  exact HN.o j' ow
 obtain⟨ay,d0,ah,u⟩:=HD.o wr A;obtain⟨E,c2,av⟩:=HC.o wr u;obtain⟨b',o',ax,b5,y0,y1,y2,y3⟩:=ay.hds j aj;have q2:(0:Int)<=(j:Int):=ow;obtain⟨k1,k2,k3⟩:=HL.o j aj;have HT:Hid (dh q (d.z j) (keptS s.hs.z i j s.hs.n)=true->cp s i=true):=λh=>by rw[HE2.o];exact ir aj h
 have HU:Hid (dh q (d.z j) (keptS s.hs.z i j s.hs.n)=false->∀j',j'<j+1->dh q (d.z j') (keptS s.hs.z i j' s.hs.n)=false):=λh j' hj'=>by
  by_cases af:j'=j
  .rw[af];exact h
  exact HM.o j' ow
 have aq:=awf (s:=s.hs) (o:=i) (l:=j) HF.o.hold;have J:=(Below.refl wr.heap.size wr).alloc nlr (.cells #[.int .i64 (d.z j).o,.int .i64 (d.z j).l,.int .i64 (d.z j).b,.int .i64 (d.z j).n] 115);have au:=Blk.new wr #[.int .i64 (d.z j).o,.int .i64 (d.z j).l,.int .i64 (d.z j).b,.int .i64 (d.z j).n] 115;have V:=hid aq;rw[ax];clear ax ay HM aq
 generalize d.z j=M at *
 go_wp2_with fail;refine(aqm s.hs i j _ (E.hs.below J)).mono ?_;rintro e w3 ⟨rfl,Y⟩;rw[V.o.1,V.o.2]
 generalize keptS s.hs.z i j s.hs.n=KP at *
 have m:=J.trans (Y.mono J.size);have v:=au.below Y;have d0:=(m.cell (p:=⟨T,0,none⟩) ah).trans d0;have ah:=Xzx ah m.size;have t0:w3.cell? ⟨wr.heap.size,0,none⟩=some (.int .i64 M.o):=v.cell (j:=0) vq;have t1:w3.cell? ⟨wr.heap.size,1,none⟩=some (.int .i64 M.l):=v.cell (j:=1) vq;have t2:w3.cell? ⟨wr.heap.size,2,none⟩=some (.int .i64 M.b):=v.cell (j:=2) vq;have t3:w3.cell? ⟨wr.heap.size,3,none⟩=some (.int .i64 M.n):=v.cell (j:=3) vq;have bo:=v.lt;have aa:=A.trans (m.mono A.size);have ab:=u.trans (m.mono u.size);clear Y au J v m E c2 y0 y1 y2 y3 A u V;go_wp2_with fail;refine(Wu q M KP w3 k1 k2 k3).mono ?_;rintro e w5 ⟨rfl,ac⟩;have bg:=aa.trans (ac.mono aa.size);have bh:=ab.trans (ac.mono ab.size);clear ac aa ab t0 t1 t2 t3 d0;cases hw:dh q M KP
 .have W:=HU.o hw;have G:Hid _:=W;clear hw W HU HT;go_wp2_with fail;go_roundw
  case rel=>exact⟨j+1,ow,vo,G.o,bg⟩
  case measure=>simp[intOf];omega
 have W:=HT.o hw;have G:=hid W;clear hw W HU HT;go_wp2_with fail;go_ret;exact⟨as6,r.trans (bh.mono r.size)⟩):=h
abbrev ax3(h:P:=by
 obtain⟨a,b,-,-⟩:=U3 H.o;obtain⟨o,rfl⟩:=Qzz a.1;obtain⟨l,rfl⟩:=Qzz b.1;have ho:o<s.os.n:=a.2;have hl:l<(s.os.z o).ls.n:=b.2;obtain⟨bo,oo,aj,bq,z0,z1,D⟩:=f.os.ods o ho;obtain⟨bl,ol,ah,bp,y0,y1,y2,y3⟩:=D.hds l hl;have u0:=q.k 0;have u1:=r.k 0;have u2:=q.lt;have u3:=r.lt;have q0:(0:Int)<=(o:Int):=ow;have q1:(o:Int)<(s.os.n:Int):=ow;have q2:(0:Int)<=(l:Int):=ow;have q3:(l:Int)<((s.os.z o).ls.n:Int):=ow;have v1:=f.os.le;have v2:=f.os.cap;have v3:=D.le;have v4:=D.cap;unfold maxLen at v2 v4;have L:Hid (¬(s.os.z o).k=1->ii p s o l n but=6):=λh=>O7 F.o H.o h;have K:Hid ((s.os.z o).k=1->((s.os.z o).ls.z l).n<n->ii p s o l n but=3):=λh h'=>O6 F.o H.o h h';have J:Hid ((s.os.z o).k=1->¬((s.os.z o).ls.z l).n<n->ii p s o l n but=0):=λh h'=>U2 F.o H.o h h';rw[aj] at c1;rw[ah] at z1;clear i f q r v c2 c3 c4 c5 c6 t aj ah D y0 y1 y2 a b G
 generalize (s.os.z o).k=KD at *
 generalize ((s.os.z o).ls.z l).n=S at *
 generalize (s.os.z o).ls.n=LN at *
 generalize (s.os.z o).ls.c=LC at *
 by_cases x:KD=1;rotate_left
 .have HX:Hid (ii p s o l n but=6):=L.o x;have g2:(KD !=1)=true:=by simpa using x
  clear L K J x;go_wp2_with(first|(go_at_call 43;refine ap (dm _ _ _ _) ?_)|(go_at_call 98;refine ap (im _ _ _ E) ?_));go_ret;exact⟨ja,g.o⟩
 have g2:(KD !=1)=false:=by rw[x];rfl
 have t1:=Qqq c1;have t2:=Qqq u0;have t3:=Qqq u1;have t4:=Qqq z1;have t5:=Qqq y3;have M:Hid (S<n->ii p s o l n but=3):=K.o x;have Q:Hid (¬S<n->ii p s o l n but=0):=J.o x;clear L K J x;cases V:decide (S<n)
 .have HX:Hid (ii p s o l n but=0):=Q.o (of_decide_eq_false V);have g4:¬S<n:=of_decide_eq_false V;clear M Q;go_wp2_with(first|(go_at_call 43;refine ap (dm _ _ _ _) ?_)|(go_at_call 98;refine ap (im _ _ _ E) ?_));refine Qxq ko ko ?_
  repeat(go_big_quiet_step(fail))
  refine Qqz ?_;intro _ U;obtain⟨⟨dq,a3⟩,y⟩:=U;subst y;go_wp2_with fail;go_ret;exact⟨ja,g.o.trans ((Qxx _ _ _).mono g.o.size)⟩
 have HX:Hid (ii p s o l n but=3):=M.o (of_decide_eq_true V);have g4:S<n:=of_decide_eq_true V;clear M Q;go_wp2_with(first|(go_at_call 43;refine ap (dm _ _ _ _) ?_)|(go_at_call 98;refine ap (im _ _ _ E) ?_));refine Qxq ko ko ?_
 repeat(go_big_quiet_step(fail))
 refine Qqz ?_;intro _ U;obtain⟨⟨dq,a3⟩,y⟩:=U;subst y;go_wp2_with fail;go_ret;exact⟨ja,g.o.trans ((Qxx _ _ _).mono g.o.size)⟩):=h
abbrev ax6(h:P:=by
 obtain⟨A,rfl,cz,kn,kz⟩:=ct.ofRow cd nlr;have d7:Hid (gp F.heap.size Q 110 4 A.a A.c):=gp.ofOwns (a:=A.a) (n:=A.n) (c:=A.c) cd nlr;have bz:=qa3 cz kn kz;have T:=hid cx;clear r3 r4 cx cd cz kn kz al L ck;simp only[Act.put,Qvq,Qwx,Qwz,Hs.val];refine(?_:wpList _ _ _ [] _ _);go_wp2_with fail;refine⟨fw.no (Qqx T.o),?_⟩;refine bu 12 rfl ?_;have U:=Y.o.box.below T.o;have zl:=U.lt;have bf:=U.frozen 3;have zc3:=U.k 3;go_wp2_with fail;refine⟨fw.no (Qqx T.o),?_⟩;refine bu 13 rfl ?_;go_wp2_with fail;refine⟨fw.yes,?_⟩;clear zl bf zc3;have fn:Hid (Blk (Q.setCell ⟨B7,3,none⟩ (.slice A.a A.n A.c)) B7 36 7 (λj=>(withMoves x3 A).cells.getD j default)):=(U.set 3 _).congr λj hj=>by match j,hj with|0,_=>rfl|1,_=>rfl|2,_=>rfl|3,_=>rfl|4,_=>rfl|5,_=>rfl|6,_=>rfl
 have fl:Hid (Bw W0 (Q.setCell ⟨B7,3,none⟩ (.slice A.a A.n A.c))):=(Y.o.bel.trans (T.o.mono Y.o.bel.size)).setCell (p:=⟨B7,3,none⟩) G6 _;have fk:Hid (ah w3.heap.size (Q.setCell ⟨B7,3,none⟩ (.slice A.a A.n A.c)) (withMoves x3 A)):=((ah.below Y.o.own T.o).withM (bz.o.1.mono Y.o.le) (d7.o.mono Y.o.le)).box U 3 (.slice A.a A.n A.c);have fp:Hid (af (withMoves x3 A) (li s i n)):=by
  have h:=Iy HI.o fo.o (q:=A) bz.o.2.1 (λj hj=>by rw[bz.o.2.2];rfl);have e:zu E A f b g n=withMoves x3 A:=by
   unfold zu;rw[<-ea.o,en.o,<-d9.o]
   rfl
  rw[e] at h;exact h
 clear U Y T bz ea d9 d7
 generalize Q.setCell ⟨B7,3,none⟩ (.slice A.a A.n A.c)=W9 at *
 generalize withMoves x3 A=x4 at *
 refine NoPanic.normal ?_;obtain⟨m1,p0,p1,p2,p3,p4,p5,p6⟩:=Boxed.of fn.o;obtain⟨-,-,-,D,J⟩:=HC.o W9 fl.o;have HZ:=qa2 D J;obtain⟨zl,dn,dl,dq,zc1,dr,zc2,bf,zc3,ds,zc4,dt,zc5,du,dm⟩:=z7 J;have gt:=(HC.o _ brf).2.2.2.1.size;clear D J u1 u2 u3 u4 u5 u6 q0 q1 q2 q3 q4 q5 rn hZB hi onn nn hgn hfn hbn hne ek bp c8 ej el leb b5 les b6 capb caps;go_wp2_with fail;have KZ:=s7b HZ.o.2 x4;have ee:=s7w (b:=w.heap.size+2) HZ.o.1 ow x4;have cv:=s7o fk.o HZ.o.2 x4;unfold set7 at KZ ee cv;obtain⟨fv,fx,fy,fz,f0,f1,f2⟩:=dp KZ;refine Xzq (v := .tuple #[x4.val,.int .i64 0]) (by simp[results,results76,go_sem,St.val,fv,fx,fy,fz,f0,f1,f2]) rfl ?_;exact⟨x4,ja,cv.at,⟨λ_=>fp.o,λh=>absurd HX.o h⟩,λ_=>cv.mono eq.o,ee⟩):=h
abbrev ax7(h:P:=by
 obtain⟨kh,rfl,ij,kn,kz⟩:=ct.ofRow f3 nlr;have kf:Hid (gp A.heap.size az 110 4 kh.a kh.c):=gp.ofOwns (a:=kh.a) (n:=kh.n) (c:=kh.c) f3 nlr;have fd:=qa3 ij kn kz;have aq:=hid hw;clear r3 r4 hw f3 ij kn kz cz av gr;simp only[Act.put,Qvq,Qwx,Qwz,Hs.val];refine(?_:wpList _ _ _ [] _ _);go_wp2_with fail;refine⟨fw.no (Qqx aq.o),?_⟩;refine bu 12 rfl ?_;have bd:=ao.o.box.below aq.o;have zl:=bd.lt;have cl:=bd.frozen 3;have zc3:=bd.k 3;go_wp2_with fail;refine⟨fw.no (Qqx aq.o),?_⟩;refine bu 13 rfl ?_;go_wp2_with fail;refine⟨fw.yes,?_⟩;clear zl cl zc3;have ke:Hid (de E.heap.size B7 W0 (withMoves x kh) (az.setCell ⟨B7,3,none⟩ (.slice kh.a kh.n kh.c))):=⟨((ah.below ao.o.own aq.o).withM (fd.o.1.mono ao.o.le) (kf.o.mono ao.o.le)).box bd 3 (.slice kh.a kh.n kh.c),(bd.set 3 _).congr λj hj=>by match j,hj with|0,_=>rfl|1,_=>rfl|2,_=>rfl|3,_=>rfl|4,_=>rfl|5,_=>rfl|6,_=>rfl,(ao.o.bel.trans (aq.o.mono ao.o.bel.size)).setCell (p:=⟨B7,3,none⟩) G6 _,by have h1:=ao.o.le;have h2:=aq.o.size;simp;omega⟩;have jw:Hid (Blk (az.setCell ⟨B7,3,none⟩ (.slice kh.a kh.n kh.c)) BC 144 12 (zj (fa s b g J))):=(cs.o.below aq.o).other (a:=⟨B7,3,none⟩) (Blk.ne2 (cs.o.below aq.o) bd dc) _;have j7:Hid (p8 s b g seen (J+1) (withMoves x kh)):=kq.o kh (gs.o kh fd.o.2.1 (λq hq=>by
  rw[fd.o.2.2,<-nh.o];unfold gu io;by_cases c:q<k
  .rw[if_pos c,if_pos c,if_neg ow]
  rw[if_neg c,if_neg c,if_neg ow]))
 have bh:Hid (CoI E.heap.size B7 BC W0 s b g seen (J+1) (withMoves x kh) (az.setCell ⟨B7,3,none⟩ (.slice kh.a kh.n kh.c))):=⟨ke.o,by rw[HQ.o];exact jw.o,j7.o,ow,ow⟩;clear bd ao aq fd kf ke jw j7 cs
 generalize az.setCell ⟨B7,3,none⟩ (.slice kh.a kh.n kh.c)=r8 at *
 refine NoPanic.normal ?_;go_wp2_with fail;go_roundw
 case rel=>exact⟨_,bh.o.num⟩
 case measure=>exact fe.o _ _ bh.o.num aai):=h
abbrev ax8(h:P:=by
 refine⟨λ_=>hS',?_⟩;rw[Lg hnd hir];have hin:i<listed.size:=ak1;have gset:∀j,(listed.setIfInBounds i true).getD j true=if j=i then true else listed.getD j true:=λj=>ano;refine ih (listed.setIfInBounds i true) (upd V i v) (λj=>if j=i then g else G j) w' ?_ (by simpa using hsz) (λj hj => ?_) (hcl.set hi) hS' (λj hj hlj => ?_) (λj hj k hk hlj hlk hjk x hx => ?_)
 .have hnodup:rem.Nodup:=apr;have e1:(rem.filter (λr => !listed.getD r true))=rem.filter (λr => !listed.getD r true):=rfl;exact at8
 .exact anw
 .unfold upd;by_cases hji:j=i
  .subst hji;rw[if_pos rfl,if_pos rfl];exact hDi
  rw[if_neg hji,if_neg hji];rw[gset j,if_neg hji] at hlj;exact mono j hj _ _ _ _ hBel (hD j hj hlj)
 by_cases hji:j=i
 .have hki:¬k=i:=λe=>hjk (hji.trans e.symm);rw[if_pos hji] at hx;rw[if_neg hki];rw[gset k,if_neg hki] at hlk;intro hx2;have h1:=hfr x hx;have h2:=lt k hk _ _ _ (hD k hk hlk) x hx2;omega
 rw[if_neg hji] at hx;rw[gset j,if_neg hji] at hlj;by_cases hki:k=i
 .rw[if_pos hki];intro hx2;have h1:=hfr x hx2;have h2:=lt j hj _ _ _ (hD j hj hlj) x hx;omega
 rw[if_neg hki];rw[gset k,if_neg hki] at hlk;exact hA j hj k hk hlj hlk hjk x hx):=h
abbrev arw(h:P:=by
 clear U;obtain⟨r,f,g,m⟩:=Y.o wb hB;obtain⟨G,t,u,x⟩:=jd r f g m;simp only[Nat.zero_add] at f g m t u x;obtain⟨y,A,B,E⟩:=HK.o wb hB;obtain⟨H,J,K,M⟩:=jd y A B E;go_wp2_with fail;refine Qxq ko ko ?_
 repeat(go_big_quiet_step((go_at_call 162;exact Xxz (Eg _ _ (by first|exact X.o|exact V.o)))))
 refine Qqz ?_;intro wc d;have d:=Ay d;have hB:=hB.trans (d.mono hB.size);have own:=ky own d;clear r f g m G t u x y A B E H J K M;clear d;obtain⟨r,f,g,m⟩:=Y.o wc hB;obtain⟨G,t,u,x⟩:=jd r f g m;simp only[Nat.zero_add] at f g m t u x;obtain⟨y,A,B,E⟩:=HK.o wc hB;obtain⟨H,J,K,M⟩:=jd y A B E;go_wp2_with(at_builtin;refine wpList_append_own _ rfl (.tmp 52) (.tmp 57) 33 rfl W0.heap.size 107 i0 (.agg #[.int .i64 0,.int .i64 0,.int .i64 0,.int .i64 0]) 4 32 underlying33 hi al am an rfl dc _ _ _ rfl (World.ownsRow.alloc own _) ⟨wc.heap.size,0,none⟩ 1 1 (dt (z k)) rfl rfl (Kx _ _ _) (Ib _) (by have:=T.o;have:=af.o;simp;unfold maxLen;omega) (by have:=T.o;have:=af.o;simp;omega) Ek ?_;intro v2 wd p S ac);have hB:=(hB.alloc hB.size _).grown S Ek (λq d=>(World.ownsRow.lt own q d).1);rw[<-Fk,show ∀l:List Hd,l.length+1=(l++[(z k)]).length from λl=>by simp] at p;have own:=p;clear r f g m G t u x y A B E H J K M;clear S ac p;go_wp2_with fail;go_roundw
 case rel=>exact⟨k+1,ow,vo,by rw[Q.o],aam,hB⟩
 case measure=>simp[intOf];omega):=h
abbrev ax9(h:P:=by
 obtain⟨m1,p0,p1,p2,p3,p4,p5,p6⟩:=Boxed.of bz.box;obtain⟨-,-,-,au,hz⟩:=HC.o W bz.bel;have HZ:=qa2 au hz;obtain⟨zl,h9,h6,ia,zc1,ib,zc2,ei,zc3,ic,zc4,ie,zc5,ig,h7⟩:=z7 hz;have ip:=(HC.o _ brf).2.2.2.1.size;have bf:=hid bz;have gp:=hid hK;clear au hz bz hK
 gi_wp2_with fail
 have KZ:=s7b HZ.o.2 x;have bh:=s7w (b:=w.heap.size+2) HZ.o.1 ow x;have fl:=s7o bf.o.own HZ.o.2 x;have dn:=(aju (w:=W) (show D≠w.heap.size+2 by omega) (.slice x.on.a x.on.n x.on.c) (.slice x.os.a x.os.n x.os.c) (.slice x.hs.a x.hs.n x.hs.c) (.slice x.ms.a x.ms.n x.ms.c) (.slice x.si.a x.si.n x.si.c) (.slice x.so.a x.so.n x.so.c) (.slice x.sf.a x.sf.n x.sf.c)).trans gp.o;unfold set7 at KZ bh fl dn;have ck:=km.of (grownBy_putObj' _ D (.deferred none)) (λr e=>by cases e;exact⟨_,dn,rfl⟩);have g4:=KZ.ck ck;have dq:=fl.ck ck;have gc:=bh.grown (grownBy_putObj' _ D (.deferred none)) (by have:=bh.size;omega) (λk e=>by cases e;omega);obtain⟨df,dg,dh,di,dj,dk,dl⟩:=dp g4;refine Zc (v := .tuple #[x.val,.int .i64 0]) dn (by simp[results,results95,go_sem,St.val,df,dg,dh,di,dj,dk,dl]) rfl ?_;exact⟨x,N0,dq.at,⟨λ_=>fb.o,λh=>absurd H0.o h⟩,λ_=>dq.mono ow,gc⟩):=h
abbrev aya(h:P:=by
 go_wp2_with fail
 go_loopw [8] (λi w1=>∃k:Nat,k<=n/\i = .int .i64 k/\Hid (∀j,j<k->bad (z j)=false)/\Bw w w1) (λi _=>n-(intOf i).toNat)
 case atStart=>exact vu
 obtain⟨k,hk,rfl,HN,hB⟩:=hrel;by_cases hlt:k<n;rotate_left
 .exact anu
 obtain⟨b,o,rfl,_,hcell0,hcell1,hcell2,hcell3⟩:=(hz.below hB) k hlt;clear hz;have HE:Hid (∀j,j<k+1->bad (z k)=false->bad (z j)=false):=λj hj h=>by
  by_cases hjk:j=k
  .rw[hjk];exact h
  exact Hi
 go_wp2_with fail;refine(hf.o (z k) wr (hB.mono hA)).mono ?_;rintro e w1 ⟨rfl,hB1⟩;have hB2:=hB.trans (hB1.mono hB.size);cases hbad:bad (z k)
 .have HN2:Hid (∀j,j<k+1->bad (z j)=false):=λj hj=>HE.o j hj hbad;clear HE HN;go_wp2_with fail;go_roundw
  case rel=>exact⟨k+1,ow,vo,HN2,hB2⟩
  case measure=>simp[intOf];omega
 exact ao0):=h
abbrev ayb(h:P:=by
 have HW5:=hid hW5;have HB5:=hid (HS.o.2.trans (hB5.mono (Qzx HD.o.1.hA HS.o.2.size)));have HP:Hid (Calls prog 66 #[.pointer (some ⟨w.heap.size,0,none⟩),.slice (some ⟨wr.heap.size+1,0,none⟩) 4 4] W5 λe w'=>e = .returned (.tuple #[])/\(∃a' n' c',mr w.heap.size w.heap.size w' a' n' c' (((j6 (λj=>ou (ls.z j)) k)++ou X).map Lib.itoa))/\tu w.heap.size W5 w'):=
  Lh w.heap.size w.heap.size (wr.heap.size+1) C p s (ou X) a' n' c' _ W5 (HD.o.1.next HB5.o) (HS.o.1.below hB5) k5 HX2.o.2.1 (by have:=HX2.o.2.2;show n'+4<=_;omega)
 clear hX hW5 hB5 k5;go_wp2_with fail;rw[HW5.o];refine HP.o.mono ?_;rintro e w6 ⟨rfl,⟨a2,n2,c2,hrow⟩,hk6⟩;have HI6:Hid (mr w.heap.size w.heap.size w6 a2 n2 c2 ((j6 (λj=>ou (ls.z j)) (k+1)).map Lib.itoa)/\Below w.heap.size W0 w6):=by
  refine⟨?_,HB5.o.trans hk6.bel⟩;rw[j6,HX2.o.1];exact hrow
 clear hrow hk6 HP HW5 HB5 HS h0 h1 h2 h3 hbl;go_wp2_with fail;exact⟨⟨k+1,a2,n2,c2,ow,vo,HI6⟩,Cy⟩):=h
abbrev att(h:P:=by
 go_wp2_with fail;obtain⟨u,u1,M,u7,u8,u9,gl,z0,z1,z2,z3,ol,c4,bl,U,X,fG,fB,ne⟩:=Cc aq.o hk W.o.1 W.o.2 on ln L.o.1 L.o.2.1 L.o.2.2;clear fG fB ne z3 X u9;rw[HZ.o.1] at z2;rw[b3.o] at U;have a4:=Qqq u1;have a5:=Qqq M;have a6:=Qqq u7;have a7:=Qqq u8;have a8:=Qqq z0;have a9:=Qqq z1;have ba:=Qqq z2;have az:=Qqq c4;have a0:=Qqq U;refine Qxq ko ko ?_
 repeat(go_big_quiet_step(fail))
 refine Qqz ?_;intro _ ax;obtain⟨⟨dq,S⟩,am⟩:=ax;subst am;have aw:Hid (iq A J r W0 (withHolds (qt x q) ⟨x.hs.a,x.hs.n,x.hs.c,z⟩) b g q (grow (redrawn wa dq) S)):=aq.o.below (Qxx wa dq S);clear a4 a5 a6 a7 a8 a9 ba az a0 u u1 M u7 u8 gl z0 z1 z2 ol c4 bl U aq
 generalize grow (redrawn wa dq) S=wz at *
 go_wp2_with fail;go_roundw
 case rel=>exact⟨k,m,z,q,ow,vo,rfl,aw,HN⟩
 case measure=>simp[intOf]):=h
abbrev Xh(h:P:=by
 go_wp2_with fail
 go_loopw [8] (λi w1=>∃k:Nat,k<=n/\i = .int .i64 k/\(∀j,j<k->bad j=false)/\Bw w w1) (λi _=>n-(intOf i).toNat)
 case atStart=>exact vu
 obtain⟨k,hk,rfl,hno,hB⟩:=hrel;have HN:=hid hno;clear hno;by_cases hlt:k<n
 .obtain⟨b,o,rfl,_,hcell0,hcell1,hcell2,hcell3⟩:=(hz.below hB) k hlt;exact Xj
 exact Tb):=h
abbrev atu(h:P:=by
 intro listed V G w hm hsz hag hcl hS hD hA;have hall:∀r∈rem,listed.getD r true=true:=λr hr=>aly;have hl:listed=lj L rem:=auk;rw[Nat.zero_add,hl];exact done V G w hS (λj hj=>hD j hj (hall j hj)) λj hj k hk=>hA j hj k hk (hall j hj) (hall k hk)):=h
abbrev atv(h:P:=by
 have hzc:(Builtin.zeroCells (Value.agg #[.int .i64 0,.int .i64 0,.int .i64 0,.int .i64 0]).cells n).toList=List.replicate (n*4) (.int .i64 0):=by
  rw[show(Value.agg #[.int .i64 0,.int .i64 0,.int .i64 0,.int .i64 0]).cells=#[.int .i64 0,.int .i64 0,.int .i64 0,.int .i64 0] from rfl]
  apply List.ext_getElem
  .simp[Builtin.zeroCells]
  intro i h1 h2;have h4:i%4<4:=ow;simp[Builtin.zeroCells]
  generalize i%4=k at h4
  match k,h4 with
  | 0,_=>rfl
  | 1,_=>rfl
  | 2,_=>rfl
  | 3,_=>rfl
 have hst:=run_storeCells_cells (P:=prog) b o (List.replicate (n*4) (.int .i64 0)) 0 w (by simpa using hc) (by simpa using hf) (by intro v hv';rw[List.eq_of_mem_replicate hv'];rfl);simp only[Nat.add_zero] at hst;obtain⟨m,rfl⟩:∃m,n=m+1:=⟨n-1,ow⟩;simp only[Builtin.clear_];simp[hzc,hst]):=h
abbrev ag3(h:P:=by
 cases hc:rem.contains i;rotate_left
 .exact Qjz hc
 exfalso;have hlt:i<ops.size:=(Qkq ho).1;have hnr:i ∉ rem:=λh=>by
  have:=List.contains_iff_mem.2 h;rw[this] at hc;cases hc
 have h1:=List.all_eq_true.1 hoth i (List.mem_range.2 hlt);have hLi:L.getD i true=false:=by
  have h2:=hag i hnr;have h3:i<L.size:=ow;have h4:i<listed.size:=ow;simp only[Array.getElem?_eq_getElem h3,Array.getElem?_eq_getElem h4,Qkx] at h2;simp only[Array.getD,h3,h4,dif_pos] at hli ⊢;rw[Array.getInternal_eq_getElem] at hli ⊢;rw[<-h2];exact hli
 rw[hLi,hc] at h1;simp only[Bool.false_or] at h1;obtain⟨q,hq,hq2⟩:=hex;have h5:=List.all_eq_true.1 h1 q hq;have h6:=hdt q (Gz hcl _ i q (Li hi) h5);rw[hq2] at h6;cases h6):=h
abbrev atw(h:P:=by
 go_wp2_with(at_builtin;rw[z.o];refine wpList_append_own v rfl (.tmp 22) (.tmp 27) 65 rfl w.heap.size 9 iI (.string ⟨#[]⟩) 1 16 underlying65 J K L M rfl dc (.slice a n c) n (xd P) rfl o.o.1 ⟨wr.heap.size,0,none⟩ 1 1 [.string ⟨X.toArray⟩] rfl rfl y.o (λu hu=>Sj) uo ow o.o.2.2.size ?_);intro v2 w6 F T _;obtain⟨V,c2,rfl,-⟩:=wn F;have q:Hid (_/\_/\_):=agl o.o F T;clear F T o y z
 try simp only[Act.put,Qvq,Qwx,Qwz]
 go_wp2_with fail;go_roundw
 case rel=>exact⟨i+1,i+1,n+1,P++[X],V,c2,ow,Nat.le_refl _,vo,vo,rfl,q.o.1,q.o.2.1,r.o.1,r.o.2,q.o.2.2⟩
 case measure=>simp[intOf];omega):=h
abbrev atx(h:P:=by
 obtain⟨K,rfl,U,sn,sz⟩:=ct.ofRow t (Qzx u.size x.size);have F:=x.trans (Q.mono x.size);have HR:=qa3 U sn sz;clear m t U sn sz;simp only[Hs.val];go_wp2_with fail;refine⟨Qqx F,?_⟩;refine au 14 rfl rfl ?_
 go_big_quiet_step(fail)
 refine Qqz ?_;refine au 15 rfl rfl ?_
 go_big_quiet_step(fail)
 refine Qqz ?_;refine fj 16 dc ?_;simp only[Qyq,Xqq,Qyx,Qyz];go_wp2_with fail;refine⟨Qqx F,?_⟩;refine NoPanic.normal ?_;go_wp2_with fail
 go_ret3
 refine⟨K,by rw[hE.o.1,hE.o.2.1];rfl,HR.o.1,⟨by rw[hE.o.2.1];exact HR.o.2.1,λj r=>Sg⟩,u.trans (F.mono u.size)⟩):=h
abbrev ag4(h:P:=by
 clear U;obtain⟨r,f,g,m⟩:=Y.o wb hB;obtain⟨G,t,u,x⟩:=jd r f g m;simp only[Nat.zero_add] at f g m t u x;obtain⟨y,A,B,E⟩:=HK.o wb hB;obtain⟨H,J,K,M⟩:=jd y A B E;go_wp2_with fail;refine Qxq ko ko ?_
 repeat(go_big_quiet_step((go_at_call 162;exact Xxz (Eg _ _ (by first|exact X.o|exact V.o)))))
 refine Qqz ?_;intro wc d;have d:=Ay d;have hB:=hB.trans (d.mono hB.size);have own:=ky own d;clear r f g m G t u x y A B E H J K M;clear d;go_wp2_with fail;go_roundw
 case rel=>exact⟨k+1,ow,vo,by rw[Q.o],aam,hB⟩
 case measure=>simp[intOf];omega):=h
abbrev aty(h:P:=by
 clear L S Q;go_wp2_with fail;refine Qxq ko ko ?_
 repeat(go_big_quiet_step(first|(go_at_call 102;exact Xxz (Ae p _ _ les ac))|(go_at_call 34;exact Xxz ((da _ _ _ _).mono (λ_ _ h=>⟨h.1,h.2▸Below.refl _ _⟩)))))
 refine Qqz ?_;intro w9 a1;have bo:Bw W0 w9:=axo;clear a1 v0 v1 v2 v3 hB;obtain⟨⟨⟨l1,d0,d1⟩,l2,c0,c1,c2,c3,c4,c5,c6⟩,D,t,f,y,m⟩:=HC.o w9 bo;clear D t m;obtain⟨zl,a4,a2,a5,zc1,a6,zc2,a7,zc3,a8,zc4,a9,zc5,bb,a3⟩:=z7 y;go_wp2_with fail;exact mu results71 y f ow HX.o dc rfl rfl rfl):=h
abbrev atz(h:P:=by
 have r3:=Qqq D;have r7:=Qqq X;have r8:=Qqq u8;have T:=Qqq z0;have U:=Qqq z1;go_wp2_with fail;refine Qxq ko ko ?_
 repeat(go_big_quiet_step(fail))
 refine Qqz ?_;intro _ S;obtain⟨⟨s,d⟩,H⟩:=S;subst H;have bb:=Qqq z3 s d;have ba:=Xzx W (Qxx wr s d).size;have E:Hid (iq A p r F (withMoves x ⟨x.ms.a,x.ms.n,x.ms.c,z⟩) b g q (grow (redrawn wr s) d)):=f.o.below (Qxx wr s d);clear r3 r7 r8 T U D X u8 z0 z1 z3 f W u
 generalize grow (redrawn wr s) d=Y at *
 go_wp2_with fail;go_roundw
 case rel=>exact⟨k,m,z,ow,vo,rfl,E,K⟩
 case measure=>simp[intOf]):=h
abbrev Xi(h:P:=by
 refine ai _ rfl ?_;simp only[bw,h2.2] at hK ⊢;go_wp2_with(at_make;refine wpList_make_full _ rfl _ _ 23 rfl wk.heap.size 3 i1 (.int .i64 0) 1 underlying23 hj ce cf .i64 .i64 _ _ p.ns rfl rfl rfl rfl (by rw[cg];omega) uo nlr ?_;intro w1 bn az);obtain⟨gq,c',hv,_,_,_,aj⟩:=Blk.ofOwns bn vq;simp only[co,Value.slice.injEq] at hv;obtain⟨rfl,-,-⟩:=hv;rw[Nat.mul_one] at aj;have a8:Bw wk w1:=(Below.refl _ wk).grown az nlr Ba;exact hK _ [wk.heap.size] _ (Qqx (hX.trans (a8.mono hX.size))) a8 (λx hx=>Ej) ⟨wk.heap.size,rfl,rfl,hX.size,aj.congr (λj hj=>afp hj)⟩):=h
abbrev at1(h:P:=by
 have h1:=h2;exact ag5):=h
abbrev at2(h:P:=by
 have e1:jw bad xs (k+1)=jw bad xs k++[X]:=ak7;have e2:(jw bad xs (k+1)).length=I+1:=ath;refine⟨⟨_,KB,λq hq => ?_,λq hq hq2 => ?_⟩,ae2 hA hB3 I X,e2,HKG.o.set4 I X⟩
 .rw[e2] at hq;show(if q=I then X else c q)=_;exact auw
 show(if q=I then X else c q)=_;rw[if_neg ow,HB.o.2.2 q ow hq2]):=h
abbrev ag5(h:P:=by
 have hm:=H1.o.2 Jt;have HM:=hid hm;clear hm H1;go_wp2_with fail;rw[HV.o];refine Qxq ko ko ?_
 repeat(go_big_quiet_step(fail))
 refine Qqz ?_;intro _ hw';obtain⟨⟨dq,osq⟩,hw''⟩:=hw';subst hw'';have hC:=hB1.trans ((Qxx W1 dq osq).mono hB1.size);have hn3:=r3 dq osq;have hlw:wr.heap.size<(grow (redrawn W1 dq) osq).heap.size:=Xzx hY.lt (Qxx W1 dq osq).size;clear r0 r1 r2 r3 r4 r5 r6 hY hB1 HV
 generalize grow (redrawn W1 dq) osq=wz at *
 go_wp2_with fail;go_roundw
 case rel=>exact⟨k+1,ow,vo,Hc,hC⟩
 case measure=>simp[intOf];omega):=h
abbrev at3(h:P:=by
 go_wp2_with fail;refine Qxq ko ko ?_
 repeat(go_big_quiet_step((go_at_call 104;exact Xxz (ba.o _ (u.o.1.below (Qxx _ _ _))))))
 refine Qqz ?_;intro _ a0;obtain⟨⟨dq,J⟩,L⟩:=a0;subst L;have l:=l.trans ((Qxx w4 dq J).mono l.size);clear r1 r2 r3 s0 s1 s2 s3 s4 s5 s6 ba u i m l1 l2
 generalize grow (redrawn w4 dq) J=w5 at *
 obtain⟨-,-,-,i,m⟩:=HC.o w5 l;obtain⟨zl,bd,bb,be,zc1,bf,zc2,bg,zc3,bh,zc4,bj,zc5,bk,bc⟩:=z7 m;go_wp2_with fail;exact mu results70 m i ow HX.o dc rfl rfl rfl):=h
abbrev at4(h:P:=by
 go_wp2_with fail;refine bz.o.mono ?_;rintro e w2 ⟨rfl,ca,b9,bs,cb⟩;have HN:Hid (iq A J r W0 (withHolds (qt x (mx (cg x b g) (max 0 n) (pg x))) (db (cg x b g) x.hs (max 0 n))) b g (mx (cg x b g) (max 0 n) (pg x)) (w2.setCell ⟨J,2,none⟩ (.slice x.hs.a (db (cg x b g) x.hs (max 0 n)).n x.hs.c))):=by
  have h:=Q.o.newHolds (m:=db (cg x b g) x.hs (max 0 n)) ca b9 bs cb;rw[HD.o.2] at h;exact h
 have bx:=bs _ _ _ _ dc Q.o.box;have y1:=bx.lt;have y2:=bx.frozen 2;have y3:=bx.k 2;clear ca b9 bs cb bx bz Q Y u dv;go_wp2_with fail
 go_end0
 exact⟨rfl,HN.o⟩):=h
abbrev ay3(h:P:=by
 have HM:=hid hm;clear hm H1;go_wp2_with fail;rw[HV.o];refine Qxq ko ko ?_
 repeat(go_big_quiet_step(fail))
 refine Qqz ?_;intro _ hw';obtain⟨⟨dq,osq⟩,hw''⟩:=hw';subst hw'';have hC:=hB1.trans ((Qxx W1 dq osq).mono hB1.size);have hn3:=r3 dq osq;have hlw:wr.heap.size<(grow (redrawn W1 dq) osq).heap.size:=Xzx hY.lt (Qxx W1 dq osq).size;clear r0 r1 r2 r3 r4 r5 r6 hY hB1 HV
 generalize grow (redrawn W1 dq) osq=wz at *
 go_wp2_with fail;go_roundw
 case rel=>exact⟨k+1,ow,vo,Hc,hC⟩
 case measure=>simp[intOf];omega):=h
abbrev at5(h:P:=by
 rintro e w9 ⟨M,rfl,K,sn,sz,A⟩;have HR:=qa3 (K.mono g.size) sn sz;clear K sn sz;simp only[Hs.val];go_wp2_with fail;refine⟨Qqx A,?_⟩;refine au 11 rfl rfl ?_
 go_big_quiet_step(fail)
 refine Qqz ?_;refine fj 12 dc ?_;simp only[Qyq,Xqq,Qyx,Qyz];go_wp2_with fail;refine⟨Qqx A,?_⟩;refine NoPanic.normal ?_;go_wp2_with fail
 go_ret2
 exact⟨M,aa1,HR.o.1,⟨agx,λj t=>Sg⟩,g.trans (A.mono g.size)⟩):=h
abbrev ag6(h:P:=by
 rintro e w9 ⟨M,rfl,K,sn,sz,A⟩;have HR:=qa3 (K.mono g.size) sn sz;clear K sn sz;simp only[Hs.val];go_wp2_with fail;refine⟨Qqx A,?_⟩;refine au 10 rfl rfl ?_
 go_big_quiet_step(fail)
 refine Qqz ?_;refine fj 11 dc ?_;simp only[Qyq,Xqq,Qyx,Qyz];go_wp2_with fail;refine⟨Qqx A,?_⟩;refine NoPanic.normal ?_;go_wp2_with fail
 go_ret2
 exact⟨M,aa1,HR.o.1,⟨agx,λj t=>Sg⟩,g.trans (A.mono g.size)⟩):=h
abbrev at6(h:P:=by
 clear HL J;have Q:=Qqq c;have T:=Qqq y0;have U:=Qqq y1;have V:=Qqq y2;have X:=Qqq Y;have S:=Qqq w0;refine Qxq ko ko ?_
 repeat(go_big_quiet_step(fail))
 refine Qqz ?_;intro w4 r;have d:=ae r;have H:=hid (a.o.trans (d.mono a.o.size));clear r d Q T U V X S a u v c t x y A B y0 y1 y2 y3 yl al z0 Y ak w0 w1 w2 w3;go_wp2_with fail;go_roundw
 case rel=>exact⟨k,ow,vo,HN,H⟩
 case measure=>simp[intOf]):=h
abbrev at7(h:P:=by
 have hBa:=hB.alloc (Qzx hn₀ (hS.o wr hB)) (.cells #[.bool (p.zb k).front,.int .i64 (p.zb k).room,.int .i64 (p.zb k).low,.int .i64 (p.zb k).high] 82);have hca:=(((Below.refl wr.heap.size wr).alloc nlr (.cells #[.bool (p.zb k).front,.int .i64 (p.zb k).room,.int .i64 (p.zb k).low,.int .i64 (p.zb k).high] 82)).cell (p:=⟨Bf,0,none⟩) hltf).trans hcf;have HA:=qa3 hJa hBa hca;clear hJa hBa hca
 gi_wp2
 refine⟨λ_ h=>ix,?_⟩
 gi_wp2
 go_roundw
 case rel=>exact⟨k+1,ow,vo,HA.o.1,HA.o.2.1,HA.o.2.2⟩
 case measure=>simp[intOf];omega):=h
abbrev at8(h:P:=by
 have hcount:(rem.filter (λr => !(listed.setIfInBounds i true).getD r true))=(rem.filter (λr => !listed.getD r true)).erase i:=by
  have e2:rem.filter (λr => !(listed.setIfInBounds i true).getD r true)=(rem.filter (λr => !listed.getD r true)).filter (λr=>r !=i):=by
   rw[List.filter_filter];refine List.filter_congr λx hx => ?_;rw[gset x];by_cases hxi:x=i<;>simp[hxi]
  rw[e2,<-List.Nodup.erase_eq_filter (hnodup.filter _)]
 rw[hcount,List.length_erase_of_mem (List.mem_filter.2 ⟨hir,by simp[hli]⟩),hm]
 rfl):=h
abbrev at9(h:P:=by
 go_wp2_with fail;refine ad.o.mono ?_;rintro e w2 ⟨rfl,ai,af,Q,ak⟩;have K:Hid (iq A p r F (withMoves x (db (cx b g) x.ms (max 0 n))) b g q (w2.setCell ⟨p,3,none⟩ (.slice x.ms.a (db (cx b g) x.ms (max 0 n)).n x.ms.c))):=f.o.newMoves (m:=db (cx b g) x.ms (max 0 n)) ai af Q ak;have V:=Q _ _ _ _ dc f.o.box;have y1:=V.lt;have y2:=V.frozen 3;have y3:=V.k 3;clear ai af Q ak V ad f B u D;go_wp2_with fail;go_ret;exact⟨m,rfl,HD.o.2,ow,K.o⟩):=h
abbrev aua(h:P:=by
 have hX:=ae hS;refine ai _ rfl ?_;simp only[bw] at hK ⊢;go_wp2_with fail;exact hK _ [wk.heap.size] _ (Qqx (hX.alloc hX.size _)) (brf.alloc nlr _) (λx hx=>Ej) ⟨wk.heap.size,rfl,rfl,hX.size,(Blk.mk' (cur:=#[.slice .none 0 0,.slice .none 0 0,.slice .none 0 0,.slice .none 0 0,.slice .none 0 0,.slice .none 0 0,.slice .none 0 0]) rfl rfl).congr (λj hj=>by match j,hj with|0,_=>rfl|1,_=>rfl|2,_=>rfl|3,_=>rfl|4,_=>rfl|5,_=>rfl|6,_=>rfl)⟩):=h
abbrev ag7(h:P:=by
 by_cases hdr:d∈rem
 .have h1:=(hrem' d hdr).2;have h2:d<L.size:=by have:=(hrem' d hdr).1;omega
  simp only[Array.getD,h2,dif_pos] at h1 hd;rw[h1] at hd;cases hd
 have h1:=hag d hdr;by_cases h2:d<L.size
 .have h3:d<listed.size:=ow;simp only[Array.getD,h2,h3,dif_pos] at hd ⊢;simp only[Array.getElem?_eq_getElem h2,Array.getElem?_eq_getElem h3,Qkx] at h1;rw[Array.getInternal_eq_getElem] at hd ⊢;rw[h1];exact hd
 simp[Array.getD,h2] at hd):=h
abbrev aub(h:P:=by
 go_enter func223,ntmps223;go_wp2_with fail;refine Qxq ko ko ?_
 repeat(go_big_quiet_step(first|(go_at_call 222;exact Xxz (Al (z (k+1)) _))|(go_at_call 187;exact Xxz (yi (z k) (z (k+1)) _))))
 refine Qqz ?_;intro _ f;obtain⟨⟨u,m⟩,d⟩:=f;subst d;go_wp2_with fail;go_ret;exact⟨by simp only[df,Nat.add_sub_cancel,g,E];simp,Qxx _ _ _⟩):=h
abbrev auc(h:P:=by
 go_enter func202,ntmps202;go_wp2_with fail;rw[B.o,M.o];refine Qxq ko ko ?_
 repeat(go_big_quiet_step((go_at_call 98;exact Xxz ((im _ _ _ Cz).mono (λ_ _ h=>⟨h.1,h.2▸Below.refl _ _⟩)))))
 refine Qqz ?_;intro _ f;obtain⟨⟨Q,H⟩,c⟩:=f;subst c;go_wp2_with fail;go_ret;exact⟨by rw[K.o,S];simp,a.trans ((Qxx _ _ _).mono a.size)⟩):=h
abbrev aud(h:P:=by
 have q4:¬(k:Int)<(ls.n:Int):=ow;have hke:k=ls.n:=ow;subst hke;have HF:=qa2 HS.o.1 (HD.o.2.2.trans HS.o.2);have r0:wr.cell? ⟨w.heap.size,0,none⟩=some (.slice a' n' c'):=HF.o.1.blk.k 0;exact au0):=h
abbrev aue(h:P:=by
 have HB:Hid (_/\_):=HB0.o out HQ1;have HQ2:=hid HQ1;have HF:=qa2 hrow (HD.o.2.2.trans hB);clear hq hrow hB HQ HB0 HQ1;exact aum):=h
abbrev auf(h:P:=by
 simp only[Bool.not_false];go_wp2_with fail;clear u1 g5 g3 f7 U;refine Qxq ko ko ?_
 repeat(go_big_quiet_step(fail))
 refine Qqz ?_;intro wq bk;have bi:=ae bk;have HKx:Hid (de u.heap.size B7 W0 x wq):=HKx.o.below bi;clear bk bi gh gg d5 d4;go_wp2_with fail;go_roundw
 case rel=>exact⟨k+1,ow,vo,by rw[fa.o,ha,ia.o,i5];rfl,HKx⟩
 case measure=>simp[intOf];omega):=h
abbrev aug(h:P:=by
 have HCL:Hid (uq W5.heap.size 115 l wk s'):=hc;clear hc;refine ai _ rfl ?_;simp only[bw,h16] at hK ⊢;go_wp2_with fail;have hBa:=(Below.refl wk.heap.size wk).alloc nlr (.cells #[.int .i64 0,.slice s'.a s'.n s'.c] 124);exact hK _ [] _ (Qqx (hX.alloc hX.size _)) (brf.alloc nlr _) (λx hx=>qm) ⟨wk.heap.size,s',rfl,rfl,hX.size,Blk.mk' rfl rfl,HCL.o.1,HCL.o.2.1,HCL.o.2.2.1.below hBa,HCL.o.2.2.2.below hBa⟩):=h
abbrev auh(h:P:=by
 go_wp2_with fail;refine⟨fw.yes,?_⟩;refine NoPanic.normal ?_;clear zl ap an aq zc1 ar zc2 au zc3 av zc4 aw zc5 az ao;go_wp2_with fail;obtain⟨br,bs,S,bt,bv,bx,bz⟩:=dp HF.o.1;refine Xzq (v := .tuple #[s.val,.string ⟨(pa 1).toArray⟩]) Xa rfl ?_;exact⟨s,by rw[HD.o.1],Or.inl rfl,by rw[HD.o.2];exact af.self _,HF.o.2.1⟩):=h
abbrev azm(h:P:=by
 clear HTA HTB;go_wp2_with(first|(go_at_call 43;refine ap (dm _ _ _ _) ?_)|(go_at_call 98;refine ap (im _ _ _ hnb) ?_));refine Qxq ko ko ?_
 repeat(go_big_quiet_step(fail))
 refine Qqz ?_;intro _ hw';obtain⟨⟨dq,osq⟩,hw''⟩:=hw';subst hw'';go_wp2_with fail;go_ret;exact⟨ja,HBW.o.trans ((Qxx _ _ _).mono HBW.o.size)⟩):=h
abbrev Xj(h:P:=by
 clear hz;go_wp2_with fail;refine(hf.o k wr hlt hB).mono ?_;rintro e w1 ⟨rfl,hB1⟩;have hB2:=hB.trans (hB1.mono hB.size);cases hbad:bad k
 .go_wp2_with fail;go_roundw
  case measure=>simp[intOf];omega
  refine⟨k+1,ow,vo,?_,hB2⟩;intro j hj;by_cases hjk:j=k
  .rw[hjk,hbad]
  exact HN.o j ow
 go_wp2_with fail;go_ret;exact⟨_,rfl,by rw[ir hlt hbad];simp,hB2⟩):=h
abbrev ag8(h:P:=by
 clear D c1 c2 c3 c4 c5 c6 l f;obtain⟨zl,aj,ae,ak,zc1,al,zc2,am,zc3,an,zc4,ao,zc5,aq,ai⟩:=z7 q;go_wp2_with(first|(go_at_call_of 98 (Value.int .i64 bin);refine ap (im _ _ _ bw) ?_)|(go_at_call_of 98 (Value.int .i64 good);refine ap (im _ _ _ bx) ?_)|(go_at_call 43;refine ap (dm _ _ _ _) ?_));exact mu results90 q m ow HX.o dc rfl rfl rfl):=h
abbrev Tf(h:P:=by
 refine⟨?_,λi hi=>(h.rows i hi).other hq dc j u,h.rapart,h.os.other hq dc dc j u,h.hs.other hq dc j u,h.ms.other hq dc j u,h.msr.set q j u,h.si.other hq dc j u,h.so.other hq dc j u,h.sf.other hq dc j u,h.aio,h.aif,h.aof,h.ari⟩;obtain⟨g,ha,h0,h1,h2,hb⟩:=h.on;exact⟨g,ha,h0,h1,h2,hb.other (a:=⟨q,j,none⟩) (Blk.ne2 hb hq dc) u⟩):=h
abbrev ag9(h:P:=by
 clear a5 h1;go_wp2_with fail;refine Qxq ko ko ?_
 repeat(go_big_quiet_step(fail))
 refine Qqz ?_;intro _ ag;obtain⟨⟨dq,ay⟩,Q⟩:=ag;subst Q;clear r0 r1 r2 r3;go_wp2_with fail;go_roundw
 case rel=>exact⟨j+1,ow,vo,by rw[HX.o],hB.trans ((Qxx _ _ _).mono hB.size)⟩
 case measure=>simp[intOf];omega):=h
abbrev aui(h:P:=by
 intro V G m K u hd B;have hs:=(hd 10 (Qjz ko) vq).2.2.2.2 vq;refine ai _ rfl ?_;simp only[bw,hs] at B ⊢;go_wp2_with fail;exact B _ [] _ u brf (λx hx=>sy) ⟨rfl,λh=>j9,λh=>j9,λh=>j9,λ_=>rfl⟩):=h
abbrev auj(h:P:=by
 intro V G m K u hd B;have hs:=(hd 9 (Qjz ko) vq).2.2.2.1 vq;refine ai _ rfl ?_;simp only[bw,hs] at B ⊢;go_wp2_with fail;exact B _ [] _ u brf (λx hx=>sy) ⟨rfl,λh=>j9,λh=>j9,λ_=>rfl,λh=>j9⟩):=h
abbrev auk(h:P:=by
 apply Array.ext_getElem?
 intro j;by_cases hj:j<L.size
 .rw[Ze rem L j hj];by_cases hjr:j∈rem
  .rw[if_pos hjr];have h1:=hall j hjr;have h2:j<listed.size:=ow;simp only[Array.getD,h2,dif_pos] at h1;simp[h2];exact h1
  rw[if_neg hjr];exact hag j hjr
 rw[Array.getElem?_eq_none ow,Array.getElem?_eq_none (by rw[Vw];omega)]):=h
abbrev aul(h:P:=by
 go_enter func223,ntmps223;go_wp2_with fail;refine Qxq ko ko ?_
 repeat(go_big_quiet_step((go_at_call 222;exact Xxz (Al (z 0) _))))
 refine Qqz ?_;intro _ f;obtain⟨⟨u,m⟩,d⟩:=f;subst d;go_wp2_with fail;go_ret;exact⟨by simp[df,g],Qxx _ _ _⟩):=h
abbrev azn(h:P:=by
 simp only[Qyq,Xqq,Qyx,Qyz];go_wp2_with fail;refine⟨Qqx hD3,?_⟩;refine NoPanic.normal ?_;go_wp2_with fail
 go_ret2
 exact⟨s',aa1,HR.o.1,⟨agx,λj hj=>Sg⟩,hBw.trans (hD3.mono hBw.size)⟩):=h
abbrev aum(h:P:=by
 have r0:WF.cell? ⟨w.heap.size,0,none⟩=some (.slice a' n' c'):=HF.o.1.blk.k 0;exact au0):=h
abbrev aun(h:P:=by
 unfold set7 at KZ cr bg;obtain⟨gt,gu,gv,gw,gx,gy,gz⟩:=dp KZ;refine Xzq (v := .tuple #[x.val,.int .i64 0]) (by simp[results,results94,go_sem,St.val,gt,gu,gv,gw,gx,gy,gz]) rfl ?_;exact⟨x,ja,bg.at,⟨λ_=>bx.o,λh=>absurd HX.o h⟩,λ_=>bg.mono ow,cr⟩):=h
abbrev aha(h:P:=by
 refine ai _ rfl ?_;simp only[bw] at hK ⊢;go_wp2_with fail;refine al.o.mono ?_;rintro e w2 ⟨g,y,rfl,a1,L,H,a4,hB2⟩;have q:=hX.size;go_wp2_with fail;exact hK _ [g] _ (Qqx (hX.trans (hB2.mono hX.size))) hB2 (λx hx=>Ej) ⟨g,y,rfl,rfl,ow,a1,L,a4⟩):=h
abbrev auo(h:P:=by
 intro V G m K u hd B;have A:=ae u;refine ai _ rfl ?_;simp only[bw] at B ⊢;go_wp2_with fail;refine(I7 1 dc m).mono ?_;rintro e wj ⟨rfl,ag⟩;go_wp2_with fail;exact B _ [] _ (Qqx (A.trans (ag.mono A.size))) ag (λx hx=>sy) ⟨rfl,rfl⟩):=h
abbrev ahb(h:P:=by
 intro h0 v' w1 ak X;have hB1:Bw wk w1:=(Below.refl _ wk).grown X nlr Ba;obtain⟨gi,ci,rfl,he,e9⟩:=ai0 (A:=w.heap.size) h0 ak ow;exact o6 (hK _ [gi] _ (Qqx (hX.trans (hB1.mono hX.size))) hB1 (λx hx=>Ej) e9)):=h
abbrev aup(h:P:=by
 obtain⟨a3,c3,hs,al⟩:=hs;refine ai _ rfl ?_;simp only[bw,hs] at B ⊢;go_wp2_with fail;exact B _ [] _ u brf (λx hx=>sy) ⟨rfl,λh=>j9,λ_=>⟨a3,c3,rfl,al⟩,λh=>j9,λh=>j9⟩):=h
abbrev auq(h:P:=by
 go_wp2_with fail;rw[HV.o];refine Qxq ko ko ?_
 repeat(go_big_quiet_step(fail))
 refine Qqz ?_;intro _ au;obtain⟨⟨dq,br⟩,ai⟩:=au;subst ai;go_wp2_with fail;go_ret;exact⟨ja,H.trans ((Qxx _ _ _).mono H.size)⟩):=h
abbrev Xk(h:P:=by
 intro V G wk K hS hd hK;have hX:=ae hS;refine ai _ rfl ?_;simp only[bw] at hK ⊢;go_wp2_with fail;exact hK _ [wk.heap.size] _ (Qqx (hX.alloc hX.size _)) (brf.alloc nlr _) (λx hx=>Ej) ⟨wk.heap.size,rfl,rfl,hX.size,heap_alloc_new wk _⟩):=h
abbrev aur(h:P:=by
 intro h0 v' w1 ak X;have hB1:Bw wk w1:=(Below.refl _ wk).grown X nlr Ba;obtain⟨s',rfl,hc⟩:=Ir (A:=w.heap.size) h0 ak ow;exact o6 (hK _ [] _ (Qqx (hX.trans (hB1.mono hX.size))) hB1 (λx hx=>qm) ⟨s',rfl,rfl,hc⟩)):=h
abbrev aus(h:P:=by
 intro i hi;obtain⟨b,o,ha,hb,h0,h1,h2,h3⟩:=h i hi;exact⟨b,o,ha,Xzx hb hB.size,(hB.cell (p:=⟨b,o+i*4,none⟩) hb).trans h0,(hB.cell (p:=⟨b,o+i*4+1,none⟩) hb).trans h1,
  (hB.cell (p:=⟨b,o+i*4+2,none⟩) hb).trans h2,(hB.cell (p:=⟨b,o+i*4+3,none⟩) hb).trans h3⟩):=h
abbrev aut(h:P:=by
 clear f n p m;go_wp2_with fail;refine(F.o _).mono ?_;rintro r w1 ⟨rfl,z⟩;have y:=hid (g.o.trans (z.mono g.o.size));clear z d;go_wp2_with fail;go_roundw
 case rel=>exact⟨k+1,ow,vo,by rw[H.o],y.o⟩
 case measure=>simp[intOf];omega):=h
abbrev auu(h:P:=by
 have q:((l.length:Int)==3)=false:=Cw;exact L6):=h
abbrev auv(h:P:=by
 have q:((l.length:Int)==0)=false:=Cw;exact L6):=h
abbrev Tg(h:P:=by
 go_enter func205,ntmps205;go_wp2_with(first|(go_at_call 43;refine ap (dm _ _ _ _) ?_)|(go_at_call 98;first|refine ap (im _ _ _ c) ?_|refine ap (im _ _ _ a) ?_))
 all_goals go_ret
 all_goals exact⟨vq,brf.alloc nlr _⟩):=h
abbrev auw(h:P:=by
 rw[e1];by_cases hqi:q=I
 .rw[if_pos hqi];simp only[List.getD];rw[List.getElem?_append_right aax,HIE.o,hqi];simp
 rw[if_neg hqi,HB.o.2.1 q aax];simp only[List.getD];rw[List.getElem?_append_left aax]):=h
abbrev aux(h:P:=by
 refine ai _ rfl ?_;simp only[bw,hs] at B ⊢;go_wp2_with fail;exact B _ [] _ u brf (λx hx=>sy) ⟨rfl,λh=>j9,λh=>j9,λh=>j9,λ_=>rfl⟩):=h
abbrev auy(h:P:=by
 refine ai _ rfl ?_;simp only[bw,hs] at B ⊢;go_wp2_with fail;exact B _ [] _ u brf (λx hx=>sy) ⟨rfl,λh=>j9,λh=>j9,λ_=>rfl,λh=>j9⟩):=h
abbrev auz(h:P:=by
 refine ai _ rfl ?_;simp only[bw,hs] at B ⊢;go_wp2_with fail;exact B _ [] _ u brf (λx hx=>sy) ⟨rfl,λh=>j9,λ_=>rfl,λh=>j9,λh=>j9⟩):=h
abbrev au0(h:P:=by
 have r1:=HF.o.1.blk.lt;go_wp2_with fail;refine(aro HF.o.1 HB.o.1 HB.o.2).mono ?_;rintro e w9 ⟨rfl,hB9⟩;have HB9:=hid (HF.o.2.trans (hB9.mono HF.o.2.size));clear hB9 r0 r1;go_wp2_with fail;go_ret;exact⟨Or.inl ⟨_,HQ2.o,rfl⟩,HB9.o⟩):=h
abbrev au1(h:P:=by
 generalize aq s b g=L at *
 clear D u;obtain⟨zl,cr,cp,cs,zc1,ct,zc2,cu,zc3,cv,zc4,cw,zc5,cz,cq⟩:=z7 K;go_wp2_with(go_at_call 43;refine ap (dm _ _ _ _) ?_);exact mu results97 K E ow HX.o dc rfl rfl rfl):=h
abbrev au2(h:P:=by
 clear kb KB HB HS;go_wp2_with fail;go_roundw
 case rel=>exact⟨_,_,_,_,_,_,_,_,_,_,_,_,_,_,_,_,_,_,_,_,_,_,_,⟨k+1,ow,vo,by rw[HN.o.2.2.1];go_num,by rw[HN.o.2.2.1];omega,HN.o.1,HN.o.2.1,HN.o.2.2.2⟩,rfl⟩
 case measure=>simp[intOf];omega):=h
abbrev au3(h:P:=by
 unfold Oper.wpIn;refine⟨?_,?_⟩
 .simp[Oper.about,f,resolve,Target.leads,Sem.run_pure]
 rw[Oper.semAt_plain F _ _ (by rw[f];intro c M;cases M)];simp[execOp,f,resolve,invoke,builtin,hs,hx,g,Result.andThen];exact L _ _ (W k w' U V)):=h
abbrev au4(h:P:=by
 have fj:Hid (¬fs p s bin good seen=0):=pr;clear Y aa;obtain⟨zl,ei,eg,ej,zc1,el,zc2,cl,zc3,em,zc4,eo,zc5,ep,eh⟩:=z7 S;go_wp2_with fail;exact mu results77 S ac ow HX.o dc rfl rfl rfl):=h
abbrev L5(h:P:=by
 intro V G wk K hS hd hA hK;have hX:=ae hS;refine ai _ rfl ?_;simp only[bw] at hK ⊢;go_wp2_with fail;exact hK _ [] _ (Qqx (hX.alloc hX.size _)) (brf.alloc nlr _) (λx hx=>qm) ⟨wk.heap.size,rfl,rfl⟩):=h
abbrev au5(h:P:=by
 clear k1 os4;clear D t m;obtain⟨zl,a4,a2,a5,zc1,a6,zc2,a7,zc3,a8,zc4,a9,zc5,bb,a3⟩:=z7 y;go_wp2_with(go_at_call 34;refine ap (da _ _ _ _) ?_);exact mu results71 y f ow HX.o dc rfl rfl rfl):=h
abbrev au6(h:P:=by
 clear k1;clear D y m;obtain⟨zl,bd,bb,be,zc1,bf,zc2,bg,zc3,bh,zc4,bi,zc5,bj,bc⟩:=z7 E;go_wp2_with(go_at_call 43;refine ap (dm _ _ _ _) ?_);exact mu results91 E t ow HX.o dc rfl rfl rfl):=h
abbrev au7(h:P:=by
 clear A u E;obtain⟨zl,bn,bl,bp,zc1,bq,zc2,br,zc3,bs,zc4,bt,zc5,bu,bm⟩:=z7 f;go_wp2_with(go_at_call 98;refine ap (im _ _ _ a0) ?_);exact mu results93 f r ow HX.o dc rfl rfl rfl):=h
abbrev au8(h:P:=by
 unfold wpList at h
 split
 .rename_i hw;rw[if_pos hw] at h;rcases h with h|⟨h1,h2⟩
  .exact .inl (Oper.wp_then (Oper.wp_mono (λa' w' h'=>h') h))
  exact .inr ⟨h1,h2⟩
 rename_i hw;rw[if_neg hw] at h;exact h):=h
abbrev au9(h:P:=by
 clear B i;obtain⟨zl,al,aj,an,zc1,ao,zc2,aq,zc3,au,zc4,av,zc5,ax,ak⟩:=z7 u;go_wp2_with(go_at_call 43;refine ap (dm _ _ _ _) ?_);exact mu results94 u m ow HX.o dc rfl rfl rfl):=h
abbrev ava(h:P:=by
 clear D t;obtain⟨L,Y,J,aa,zc1,ab,zc2,ac,zc3,ay,zc4,az,zc5,a0,ax⟩:=z7 B;go_wp2_with(go_at_call 34;refine ap (da _ _ _ _) ?_);exact mu results74 B q ow HX.o dc rfl rfl rfl):=h
abbrev avc(h:P:=by
 clear A f;obtain⟨zl,cv,cs,cw,zc1,cx,zc2,cy,zc3,cz,zc4,c7,zc5,c8,cu⟩:=z7 m;go_wp2_with(go_at_call 34;refine ap (da _ _ _ _) ?_);exact mu results73 m i ow HX.o dc rfl rfl rfl):=h
abbrev Xl(h:P:=by
 go_enter func200,ntmps200;go_wp2_with(first|(go_at_call 43;refine ap (dm _ _ _ _) ?_)|(go_at_call 98;refine ap (im _ _ _ a) ?_))
 all_goals go_ret
 all_goals exact⟨vq,brf.alloc nlr _⟩):=h
abbrev avd(h:P:=by
 clear kb HB HS;go_wp2_with fail;go_roundw
 case rel=>exact⟨_,_,_,_,_,_,_,_,_,_,_,_,_,_,_,_,_,_,_,_,_,_,_,⟨k+1,ow,vo,by rw[HN.o.2],by rw[HN.o.2];omega,HN.o.1,hB3,HKG⟩,rfl⟩
 case measure=>simp[intOf];omega):=h
abbrev ahc(h:P:=by
 have hlen:=(List.getElem?_eq_some_iff.1 hj).1;rw[iz] at hlen;obtain⟨b,o,he,hb,-⟩:=sh 0 ow;simp only[Qkx] at he;subst he;exact⟨jx.news sh j u hj,aj7⟩):=h
abbrev ave(h:P:=by
 have f:=HR.o.fm;have bl:=fi (f.line o ho l hl);refine⟨?_,?_,?_⟩
 .rw[hsame.num f hb gl];exact f.sh.num b G8 g gl
 .rw[hsame.so.2 g x0s];exact f.sob g gl
 rw[hsame.line ho hl];omega):=h
abbrev ay4(h:P:=by
 exact hK _ [] _ (Qqx (hX.alloc hX.size _)) (brf.alloc nlr _) (λx hx=>qm) ⟨wk.heap.size,s',rfl,rfl,hX.size,Blk.mk' rfl rfl,ao.o.1,ao.o.2.1,ao.o.2.2.1.below cp,ao.o.2.2.2.below cp⟩):=h
abbrev L6(h:P:=by
 go_enter func39,ntmps39;go_wp2_with fail;refine Xzq (v := .tuple #[O1.val,.bool false]) asn rfl ?_;exact Er):=h
abbrev avf(h:P:=by
 have r:Hid _:=d;clear d;go_wp2_with fail;go_roundw
 case rel=>exact⟨k+1,ow,vo,by rw[p.o,if_neg r.o,Int.add_zero],hB.alloc Jr _⟩
 case measure=>simp[intOf];omega):=h
abbrev ahd(h:P:=by
 have hne:rem.filter (λr => !listed.getD r true)≠[]:=λe=>by rw[e] at hm;simp at hm
 obtain⟨x,hx⟩:=List.exists_mem_of_ne_nil _ hne;have:=List.mem_filter.1 hx;exact⟨x,this.1,by simpa using this.2⟩):=h
abbrev avg(h:P:=by
 have HCL:Hid (uq W5.heap.size 115 l wk s'):=hc;clear hc;refine ai _ rfl ?_;simp only[bw,h15] at hK ⊢;go_wp2_with fail;exact hK _ [] _ hS brf (λx hx=>qm) ⟨s',rfl,rfl,HCL.o⟩):=h
abbrev avh(h:P:=by
 have HQ2:Hid (q=some (4,[])):=akt;clear hx HQ;go_wp2_with fail
 go_ret3
 rw[HQ2.o];exact⟨⟨none,0,rfl,λi hi=>absurd hi (Qzq _)⟩,(HC.o w9 hB9).2.2.2⟩):=h
abbrev avi(h:P:=by
 have hm:=H1.o.2 Jt;have HM:=hid hm;clear hm H1;go_wp2_with fail;go_roundw
 case rel=>exact⟨k+1,ow,vo,Hc,ae.o _⟩
 case measure=>simp[intOf];omega):=h
abbrev avj(h:P:=by
 rw[e,List.find?_append];have h0:(List.range k).find? (λi=>bq (z i) o l b)=none:=ao6;rw[h0,List.find?_cons];simp[hm]):=h
abbrev avk(h:P:=by
 have hm:=H1.o.2 Jt;have HM:=hid hm;clear hm H1;go_wp2_with fail;go_roundw
 case rel=>exact⟨k+1,ow,vo,Hc,T.o⟩
 case measure=>simp[intOf];omega):=h
abbrev ay5(h:P:=by
 go_wp2_with fail;go_roundw
 case measure=>simp[intOf];omega
 refine⟨k+1,ow,vo,?_,hB2⟩;exact aox):=h
abbrev ahe(h:P:=by
 clear d;go_wp2_with fail
 go_round
 case rel=>exact⟨k+1,ow,vo,λj q=>by
  by_cases v:j=k
  .rw[v,y.o]
  exact p.o j ow⟩
 case measure=>simp[intOf];omega):=h
abbrev avl(h:P:=by
 refine Qqz ?_;intro _ g;obtain⟨⟨B,y⟩,d⟩:=g;subst d;go_wp2_with fail;go_ret;exact⟨by rw[A.o,u.o];rfl,f.trans ((Qxx _ _ _).mono f.size)⟩):=h
abbrev avm(h:P:=by
 refine⟨hX,λx hx => ?_,?_⟩
 .have:=HB.o.1 x (T3 hlt (by rw[hX];exact hx));omega
 have h4:=HB.o.2;rw[C4] at h4;rw[HS.o.1.len,List.length_map,C4];omega):=h
abbrev alv(h:P:=by
 have h1:=List.all_eq_true.1 hTB.1.1 k hk;simp only[Xxx] at h1;refine⟨by simpa using h1.1,λj hj => ?_⟩;have h2:=List.all_eq_true.1 h1.2 (true,j) (hT j hj)
 simpa using h2):=h
abbrev alw(h:P:=by
 clear D y m;obtain⟨zl,bd,bb,be,zc1,bf,zc2,bg,zc3,bh,zc4,bi,zc5,bj,bc⟩:=z7 E;go_wp2_with fail;exact mu results91 E t ow HX.o dc rfl rfl rfl):=h
abbrev alx(h:P:=by
 clear L S Q;obtain⟨zl,a4,a2,a5,zc1,a6,zc2,a7,zc3,a8,zc4,a9,zc5,bb,a3⟩:=z7 y;go_wp2_with fail;exact mu results71 y f ow HX.o dc rfl rfl rfl):=h
abbrev aly(h:P:=by
 cases hq:listed.getD r true
 .have:r∈rem.filter (λr => !listed.getD r true):=List.mem_filter.2 ⟨hr,by simp[hq]⟩;rw[List.length_eq_zero_iff.1 hm] at this;simp at this
 rfl):=h
abbrev al0(h:P:=by
 clear G W;obtain⟨zl,aj,ae,ak,zc1,al,zc2,am,zc3,an,zc4,ao,zc5,aq,ai⟩:=z7 q;go_wp2_with fail;exact mu results90 q m ow HX.o dc rfl rfl rfl):=h
abbrev azh(h:P:=by
 have HX2:Hid _:=HX;rw[hkd] at z0;clear HK0 HK1 HK2 HT HU hkd HX;go_wp2_with fail;go_roundw
 case rel=>exact⟨j+1,ow,vo,HX2.o,hB5⟩
 case measure=>simp[intOf];omega):=h
abbrev al1(h:P:=by
 clear D y;obtain⟨zl,co,cm,cp,zc1,cq,zc2,aj,zc3,cr,zc4,cs,zc5,ct,cn⟩:=z7 E;go_wp2_with fail;exact mu results96 E A ow HX.o dc rfl rfl rfl):=h
abbrev axu(h:P:=by
 clear Y aa;obtain⟨zl,ei,eg,ej,zc1,el,zc2,cl,zc3,em,zc4,eo,zc5,ep,eh⟩:=z7 S;go_wp2_with fail;exact mu results77 S ac ow HX.o dc rfl rfl rfl):=h
abbrev al2(h:P:=by
 clear H y;obtain⟨zl,dn,dl,dq,zc1,dr,zc2,bf,zc3,ds,zc4,dt,zc5,du,dm⟩:=z7 J;go_wp2_with fail;exact mu results76 J D ow HX.o dc rfl rfl rfl):=h
abbrev al3(h:P:=by
 have e1:jw bad xs (k+1)=jw bad xs k:=ak4;exact ang):=h
abbrev al4(h:P:=by
 have q:((l.length:Int)==1)=false:=Cw;exact abp):=h
abbrev al5(h:P:=by
 have q:((l.length:Int)==1)=false:=Cw;exact abq):=h
abbrev abb(h:P:=by
 have q:((l.length:Int)==0)=false:=Cw;exact abp):=h
abbrev abc(h:P:=by
 have q:((l.length:Int)==0)=false:=Cw;exact abq):=h
abbrev al6(h:P:=by
 have:=@List.range_add k (n-k);rw[show k+(n-k)=n by omega] at this;rw[this,show n-k=(n-k-1)+1 by omega,List.range_succ_eq_map];simp[Function.comp_def];intro i hi;omega):=h
abbrev axv(h:P:=by
 go_wp2_with(first|(go_at_call 43;refine ap (dm _ _ _ _) ?_)|(go_at_call 98;refine ap (im _ _ _ E) ?_));go_ret;exact⟨ja,g.o⟩):=h
abbrev al7(h:P:=by
 refine⟨by have:=HS5.o.1;omega,?_,(zm HS5.o.2.1 r2).below HS5.o.2.2 nlr HS5.o.2.2.size⟩;rw[j6,HX.o];unfold ju at r1 ⊢;rw[List.map_append];exact r1):=h
abbrev al8(h:P:=by
 exact⟨mw,aa5,Df _,⟨λh=>absurd h (by rw[HE.o];decide),λ_=>⟨rfl,rfl,rfl,rfl,rfl,rfl,rfl⟩⟩,λh=>absurd h (by rw[HE.o];decide),hfin⟩):=h
abbrev abd(h:P:=by
 go_wp2
 go_ret;exact⟨⟨none,0,0,sz⟩,rfl,⟨rfl,λj hj=>rfl,⟨Nat.le_refl _,Qxz _,λ_=>rfl,λh=>absurd h (Nat.lt_irrefl _)⟩,Or.inl rfl⟩,Below.refl _ _⟩):=h
abbrev al9(h:P:=by
 rw[r] at K;go_wp2_with fail;go_roundw
 case rel=>exact⟨k+1,ow,vo,by rw[Br (by rw[r];decide)];exact l.o,hB⟩
 case measure=>simp[intOf];omega):=h
abbrev ama(h:P:=by
 obtain⟨x1,x2,x3⟩:=nr i hi;exact⟨λe=>by simp only[co] at e;exact x1 e,λe=>by simp only[co] at e;exact x2 e,λe=>by simp only[co] at e;exact x3 e⟩):=h
abbrev axw(h:P:=by
 obtain⟨zl,aj,ae,ak,zc1,al,zc2,am,zc3,an,zc4,ao,zc5,aq,ai⟩:=z7 q;go_wp2_with fail;exact mu results90 q m ow HX.o dc rfl rfl rfl):=h
abbrev azi(h:P:=by
 obtain⟨zl,zf0,zc0,zf1,zc1,zf2,zc2,zf3,zc3,zf4,zc4,zf5,zc5,zf6,zc6⟩:=z7 hz;go_wp2_with fail;exact mu results71 hz hBw ow HX.o dc rfl rfl rfl):=h
abbrev abe(h:P:=by
 obtain⟨zl,bd,bb,be,zc1,bf,zc2,bg,zc3,bh,zc4,bj,zc5,bk,bc⟩:=z7 m;go_wp2_with fail;exact mu results70 m i ow HX.o dc rfl rfl rfl):=h
abbrev N4(h:P:=by
 rw[b];exact(Uz _ a c l w dc dc dc dc dc dc dc dc).mono λe w' d=>Or.inr ⟨rfl,d⟩):=h
abbrev amb(h:P:=by
 obtain⟨a0,a1⟩:=ha;have:b=1\/b=2\/b=3\/b=4\/b=5\/b=6\/b=7\/b=8\/b=9:=ow;rcases this with rfl|rfl|rfl|rfl|rfl|rfl|rfl|rfl|rfl<;>omega):=h
abbrev amc(h:P:=by
 have HF:=qa2 HQ1 (HD.o.2.2.trans hB);clear hq hB HQ HB0 HQ1;unfold xc;go_wp2_with fail;exact⟨rfl,Or.inr (Or.inl ⟨4,[],HF.o.1,dc,rfl⟩),HF.o.2⟩):=h
abbrev amd(h:P:=by
 have HM:=hid t;clear t v;go_wp2_with fail;rw[HV.o];go_roundw
 case rel=>exact⟨k+1,ow,vo,Hc,Q⟩
 case measure=>simp[intOf];omega):=h
abbrev ame(h:P:=by
 have h:=Zo HX.o;obtain⟨-,o',l',b',e1,e2,e3,h⟩:=h;have e1':o'=o:=ow;have e2':l'=l:=ow;have e3':b'=b:=ow;rw[e1',e2',e3'] at h;exact h):=h
abbrev abf(h:P:=by
 clear hc;simp only[Hs.val];go_wp2_with fail;exact hK _ [] _ (Qqx (hX.trans (hB2.mono hX.size))) hB2 (λx hx=>qm) ⟨s',rfl,rfl,HR.o⟩):=h
abbrev abg(h:P:=by
 clear g;go_wp2_with(go_at_call 34;refine ap (da _ _ _ _) ?_);go_ret;exact⟨by simp[iu,c.o.1,c.o.2,m.o],a.alloc ow _⟩):=h
abbrev azj(h:P:=by
 have n2:(LZ.b+LZ.n+KP !=LZ.l)=true:=Em;rw[hkd] at z0;clear HK0 HK1 HK2 HT HU hkd;go_wp2_with fail;go_ret;exact⟨ja,hBw⟩):=h
abbrev amf(h:P:=by
 rintro e w1 ⟨h,hB1⟩;rcases h with⟨rfl,-⟩|⟨k0,hk0,-⟩
 .go_wp2_with fail;go_ret;exact⟨rfl,hB1⟩
 exact absurd hk0 (Qzq _)):=h
abbrev axx(h:P:=by
 refine Qqz ?_;intro _ f;obtain⟨⟨u,m⟩,d⟩:=f;subst d;go_wp2_with fail;go_ret;exact⟨by simp[df,g],Qxx _ _ _⟩):=h
abbrev S7(h:P:=by
 intro V G wk K hS hd hK;refine ai _ rfl ?_;simp only[bw] at hK ⊢;go_wp2_with fail;exact hK _ [] _ hS brf (λx hx=>qm) ⟨rfl,rfl⟩):=h
abbrev axy(h:P:=by
 clear hc;refine ai _ rfl ?_;simp only[bw,eq] at hK ⊢;go_wp2_with fail;exact hK _ [] _ hS brf (λx hx=>qm) ⟨s',rfl,rfl,ao.o⟩):=h
abbrev amg(h:P:=by
 clear HL m;go_wp2_with fail;clear A B q r t u f v x y;go_roundw
 case rel=>exact⟨k,ow,vo,p,HB⟩
 case measure=>simp[intOf]):=h
abbrev abh(h:P:=by
 have HM:=hid t;clear t r;go_wp2_with fail;go_roundw
 case rel=>exact⟨k+1,ow,vo,Hc,A⟩
 case measure=>simp[intOf];omega):=h
abbrev amh(h:P:=by
 go_wp2_with fail;refine NoPanic.normal ?_;go_wp2_with fail;go_roundw
 case rel=>exact⟨j+1,ow,vo,HN⟩
 case measure=>simp[intOf];omega):=h
abbrev ami(h:P:=by
 go_wp2_with fail
 go_ret2
 exact⟨⟨none,0,0,z⟩,aa6,NA.o _,⟨aa6,λj t=>absurd t (Qzq _)⟩,g⟩):=h
abbrev amj(h:P:=by
 rw[List.range_succ,List.map_append]
 congr 1
 .exact List.map_congr_left λi hi=>by have:=List.mem_range.1 hi;simp[show ¬i=k by omega]
 simp):=h
abbrev abi(h:P:=by
 rintro e wj ⟨rfl,ag⟩;go_wp2_with fail;exact B _ [] _ (Qqx (A.trans (ag.mono A.size))) ag (λx hx=>sy) ⟨rfl,rfl⟩):=h
abbrev amk(h:P:=by
 refine Blk.below (Blk.congr (Blk.mk' rfl rfl) (λj r => ?_)) (brf.drew);have ah:j=0\/j=1:=by have:j<2:=r;omega
 rcases ah with rfl|rfl<;>rfl):=h
abbrev abj(h:P:=by
 unfold oe at hd;rw[ho] at hd;obtain⟨e,he,rfl⟩:=List.mem_map.1 hd;have:=List.mem_filter.1 he;exact hdep e (by simpa using this.1) this.2):=h
abbrev aml(h:P:=by
 have HX:Hid (dk p s=false):=f.o (by rw[x.o,B];rfl);clear x f u B;go_wp2_with fail;go_ret;exact⟨ja,hBw⟩):=h
abbrev amm(h:P:=by
 unfold maxLen at rcap;exact amy):=h
abbrev amn(h:P:=by
 obtain⟨h1,h2,h3,h4⟩:=h;refine⟨h1,h2,h3,λhn => ?_⟩;obtain⟨q,ha,hA,hb⟩:=h4 hn;exact⟨q,ha,hA,K.blk hb (Blk.ne2 hb hg hne)⟩):=h
abbrev axz(h:P:=by
 go_wp2_with fail;rw[HV.o];go_roundw
 case rel=>exact⟨k+1,ow,vo,Hc,x⟩
 case measure=>simp[intOf];omega):=h
abbrev ax0(h:P:=by
 go_wp2_with fail;go_roundw
 case rel=>exact⟨_,bh.o.num⟩
 case measure=>exact fe.o _ _ bh.o.num aai):=h
abbrev amo(h:P:=by
 clear hs HQ;go_wp2_with(go_at_call 98;refine ap (im _ _ _ hcap) ?_);exact⟨rfl,Or.inr ⟨HQ2.o,rfl⟩,Below.refl _ _⟩):=h
abbrev N5(h:P:=by
 go_enter func211,ntmps211;go_wp2_with fail
 all_goals go_ret
 all_goals exact⟨by first|rfl|simp_all,brf.alloc nlr _⟩):=h
abbrev abk(h:P:=by
 match j,hj with
 | 0,_=>rfl
 | 1,_=>rfl
 | 2,_=>rfl
 | 3,_=>rfl
 | 4,_=>rfl
 | 5,_=>rfl
 | 6,_=>rfl
 | 7,_=>rfl
 | 8,_=>rfl
 | 9,_=>rfl):=h
abbrev amp(h:P:=by
 go_wp2_with(go_at_call 98;refine ap (im _ _ _ Cz) ?_)
 go_ret2
 exact⟨aac,hBw⟩):=h
abbrev abl(h:P:=by
 clear f u a8 a9;go_wp2_with(go_at_call 34;refine ap (da _ _ _ _) ?_);go_ret;exact⟨ja,hBw⟩):=h
abbrev abm(h:P:=by
 clear x f u B;go_wp2_with(go_at_call 34;refine ap (da _ _ _ _) ?_);go_ret;exact⟨ja,hBw⟩):=h
abbrev amq(h:P:=by
 exact⟨mw,rfl,Df _,⟨λh=>absurd h HNE.o,λ_=>⟨rfl,rfl,rfl,rfl,rfl,rfl,rfl⟩⟩,λh=>absurd h HNE.o,hbz⟩):=h
abbrev amr(h:P:=by
 have h1:=congrArg List.length hpt;rw[Ef,List.length_cons] at h1;have:=List.count_le_length (a:=(32:UInt8)) (l:=t);omega):=h
abbrev S8(h:P:=by
 rw[List.filter_eq_self];intro r hr;have:=List.all_eq_true.1 hM'.1.1.2 r hr;simp only[Xxx] at this;exact this.2):=h
abbrev ams(h:P:=by
 refine hK v' w' r1 ⟨_,r2,λk hk => ?_⟩;simp only[Value.ownBlock,Qkx] at hk;subst hk;exact⟨hA',cur,hgc⟩):=h
abbrev amt(h:P:=by
 (gi_at_call 126;exact CallsIn.regrown_of (CallsIn.inRound l (callsIn_wide.2 (cv.o _ (da.o.below (Qxx _ _ _))))))):=h
abbrev amu(h:P:=by
 have hBw:=(HC.o wr HB.o).2.2;have HL0:=hid HL.o;clear HL;go_wp2_with fail;go_ret;exact⟨by rw[HL0.o];rfl,hBw⟩):=h
abbrev amv(h:P:=by
 exact o6 (hK _ [] _ (Qqx (hX.trans (hB1.mono hX.size))) hB1 (λx hx=>qm) ⟨s',rfl,rfl,hc⟩)):=h
abbrev S9(h:P:=by
 rw[cy dy,cy dy,cy dy,cy dy]
 rfl):=h
abbrev amw(h:P:=by
 intro k hk;have H:k=0\/k=1:=ow;rcases H with rfl|rfl
 .exact G.o.1.below x
 exact G.o.2.below x):=h
abbrev amx(h:P:=by
 intro j u hj
 match j,hj with
 | 0,hj=>simp at hj;subst hj;exact HK17.o.k 0
 | 1,hj=>simp at hj;subst hj;exact HK17.o.k 1):=h
abbrev amy(h:P:=by
 go_wp2_with fail;go_roundw
 case rel=>exact⟨k+1,ow,vo,by rw[HS.o],hB⟩
 case measure=>simp[intOf];omega):=h
abbrev amz(h:P:=by
 obtain⟨q',a0,a1,a2,a3,a4⟩:=h.on;exact⟨q',a0,a1,a2,a3,a4.other (a:=⟨G,g,none⟩) (Blk.ne2 a4 b5 dc) _⟩):=h
abbrev am0(h:P:=by
 clear hk3 hR
 gi_wp2
 go_roundw
 case rel=>exact⟨k+1,ow,vo,hJ3,hB3,hc3⟩
 case measure=>simp[intOf];omega):=h
abbrev am1(h:P:=by
 rw[<-w.1]
 congr 2
 rw[(tj s o l b n i).2];refine sk λj hj => ?_;rw[xw,if_neg (λe=>c e.1)]):=h
abbrev am2(h:P:=by
 have h:=hk.less (m:=(gh p).length) ow;refine h.congr λj hj => ?_;simp[List.getD,List.getElem?_eq_getElem hj]):=h
abbrev am3(h:P:=by
 have a:=se (b:=b) (g:=g) r (Int.le_refl 0);have c:=(lm (s:=s) (b:=b) (g:=g) (n:=s.ms.n) r.fm.moveN).1;omega):=h
abbrev am4(h:P:=by
 go_wp2_with(go_at_call 37;refine(o.o _).mono ?_;rintro e w1 ⟨rfl,q⟩);go_ret;exact⟨by rw[b.o];rfl,q⟩):=h
abbrev Hf(h:P:=by
 rintro e w1 ⟨r,rfl,hr,hB⟩;have HR:=hid hr;clear hr;go_wp2_with fail;go_ret;exact⟨by rw[<-HR.o];rfl,hB⟩):=h
abbrev am5(h:P:=by
 have hB:=hWB.trans (h.mono hWB.size);exact⟨(hB.cell (p:=⟨b,o,none⟩) hb).trans hc,Xzx hb hB.size⟩):=h
abbrev Ta(h:P:=by
 intro j u hj;have:=HN.o j u hj;rw[((Below.refl w.heap.size w).alloc nlr _).cell (p:=ad.add j) this.2];exact this.1):=h
abbrev ax1(h:P:=by
 go_roundw
 case rel=>exact⟨_,bh.o.num⟩
 case measure=>exact fe.o _ _ bh.o.num aai):=h
abbrev am6(h:P:=by
 cases hq:(kt p s||ig p s||mm p s||gt p s)
 .rfl
 rw[dk,hq] at h2;cases h2):=h
abbrev am7(h:P:=by
 show(if x.k=1 then _ else _)=_;rw[if_neg n1,if_neg n2,if_neg n3,if_neg n4,if_neg n5,if_neg n6,if_neg n7,if_neg n8]):=h
abbrev am8(h:P:=by
 have a:=fi (HF.o.line i hlt j hj);have c:=wh (z:=s.hs.z) (i:Int) (j:Int) s.hs.n HF.o.holdN;omega):=h
abbrev am9(h:P:=by
 go_wp2_with fail;go_roundw
 case rel=>exact⟨i+1,g,ow,vo,HK,HN⟩
 case measure=>simp[intOf];omega):=h
abbrev ana(h:P:=by
 go_wp2_with fail;go_roundw
 case rel=>exact⟨i+1,cr,ow,vo,HI,HN⟩
 case measure=>simp[intOf];omega):=h
abbrev anb(h:P:=by
 go_wp2_with fail;go_roundw
 case rel=>exact⟨g+1,x,ow,vo,l,D⟩
 case measure=>simp[intOf];omega):=h
abbrev abn(h:P:=by
 go_wp2_with fail;go_roundw
 case rel=>exact⟨f+1,x,ow,vo,l,D⟩
 case measure=>simp[intOf];omega):=h
abbrev abo(h:P:=by
 go_wp2_with fail;go_roundw
 case rel=>exact⟨b+1,x,ow,vo,l,D⟩
 case measure=>simp[intOf];omega):=h
abbrev abp(h:P:=by
 unfold Pl.val St.val;go_enter func41,ntmps41;go_wp2_with fail
 go_ret3
 exact⟨rfl,dx _ _ _⟩):=h
abbrev abq(h:P:=by
 go_enter func33,ntmps33;go_wp2_with fail;exact⟨rfl,Or.inr (Or.inr ⟨rfl,rfl⟩),brf.alloc nlr _⟩):=h
abbrev anc(h:P:=by
 rw[List.take_add_one,List.getElem?_eq_getElem hk,List.filter_append,e]
 congr 1
 cases h:bad xs[k]<;>simp[h]):=h
abbrev Tb(h:P:=by
 go_wp2_with fail;go_ret;have hkn:k=n:=ow;subst hkn;exact⟨_,rfl,by rw[dj HN.o];decide,hB⟩):=h
abbrev abr(h:P:=by
 go_wp2_with(go_at_call 34;refine ap (da _ _ _ _) ?_);go_ret;exact⟨ja,hBw⟩):=h
abbrev abs(h:P:=by
 rw[uk];refine hb.congr λq hq => ?_;rw[Cb hq];unfold hc;dsimp only;rw[aq7 ow]):=h
abbrev ane(h:P:=by
 go_wp2_with fail;go_roundw
 case rel=>exact⟨k+1,ow,vo,HN⟩
 case measure=>simp[intOf];omega):=h
abbrev anf(h:P:=by
 clear hsk hke HS;go_wp2_with fail
 go_ret3
 exact⟨⟨a2,c2,by rw[<-HF.o.2];rfl,HF.o.1⟩,HBW.o⟩):=h
abbrev ang(h:P:=by
 rw[e1];exact⟨⟨c,kb,by rw[e1];exact HB.o.2.1,λq hq hq2=>HB.o.2.2 q ow hq2⟩,HIE.o⟩):=h
abbrev anh(h:P:=by
 have:=Lr (bad:=bad) (Nat.le_refl xs.length) hno;rw[Nr,List.take_length] at this;exact this):=h
abbrev ani(h:P:=by
 have:=P8 (c:=32) (t:=t) (acc:=[]) y (by rw[hpt];exact hy);simp only[List.length_nil] at this;omega):=h
abbrev anj(h:P:=by
 go_wp2_with(go_at_call 34;refine ap (da _ _ _ _) ?_);go_ret;exact⟨rfl,brf.alloc nlr _⟩):=h
abbrev ank(h:P:=by
 by_cases c:j=i
 .subst c;rw[o9,hv]
 rw[az c] at hd;rw[fo V v c];exact h.val j hj hd):=h
abbrev anl(h:P:=by
 obtain⟨C,a1,a2,a3,a4,a5⟩:=h.lines i hi;exact⟨C,a1,a2,a3,a4,K.blk a5 (Blk.ne2 a5 hg dc)⟩):=h
abbrev anm(h:P:=by
 have a1:=(se (b:=b) (g:=g) r h0).1;have a2:=(se (b:=b) (g:=g) (M:=J+1) r ow).1;omega):=h
abbrev ax2(h:P:=by
 go_wp2_with fail;go_ret;exact⟨ja,H.trans ((Qxx _ _ _).mono H.size)⟩):=h
abbrev azk(h:P:=by
 rw[hkd] at z0;clear HK0 HK1 HK2 HT HU hkd;go_wp2_with fail;go_ret;exact⟨ja,hBw⟩):=h
abbrev ann(h:P:=by
 go_enter func148,ntmps148;go_wp2_with fail;go_ret;exact⟨by simp[gz,a.o],b⟩):=h
abbrev ano(h:P:=by
 by_cases hj:j=i
 .subst hj;simp[Array.getD,hin]
 rw[if_neg hj,getD_set_ne true (λe=>hj e.symm)]):=h
abbrev anp(h:P:=by
 unfold bj Hd.val;go_enter func162,ntmps162
 go_wp2
 go_ret;exact⟨rfl,brf.alloc nlr _⟩):=h
abbrev anq(h:P:=by
 have:=dv h1.2 i hi;simp only[ur,Bool.not_eq_false'] at this;have:=ar this;omega):=h
abbrev anr(h:P:=by
 rintro rfl;rcases hown.2 with⟨_,h0⟩|⟨g2,cap2,cur2,h,_⟩
 .have:=HWL.o;omega
 cases h):=h
abbrev ans(h:P:=by
 rintro rfl;obtain⟨c,hc,_⟩:=h;obtain⟨c',hc',_⟩:=h';rw[hc] at hc';cases hc';exact he rfl):=h
abbrev Eo(h:P:=by
 rw[b];exact Zy C p s _ a c l w dc dc dc dc dc):=h
abbrev ant(h:P:=by
 obtain⟨q,a0,a1,a2,a3,a4⟩:=k.on;exact⟨q,a0,a1,a2,a3,K.blk a4 (Blk.ne2 a4 hg dc)⟩):=h
abbrev abt(h:P:=by
 match j,hj with
 | 0,_=>rfl
 | 1,_=>rfl
 | 2,_=>rfl
 | 3,_=>rfl
 | 4,_=>rfl
 | 5,_=>rfl
 | 6,_=>rfl):=h
abbrev anu(h:P:=by
 go_wp2_with fail;go_ret;have hkn:k=n:=ow;subst hkn;exact⟨Or.inl ⟨rfl,HN.o⟩,hB⟩):=h
abbrev anv(h:P:=by
 gi_wp2
 go_end0
 have hkn:k=p.nb:=ow;subst hkn;exact⟨⟨_,rfl⟩,.inl ⟨_,rfl,hJs⟩⟩):=h
abbrev Ep(h:P:=by
 rw[b];exact Wa p s _ a c l w dc dc dc dc dc):=h
abbrev anw(h:P:=by
 rw[Array.getElem?_setIfInBounds,if_neg (λe:i=j=>hj (by rw[<-e];exact hir))];exact hag j hj):=h
abbrev abu(h:P:=by
 unfold mq;rw[cy ow,cy ow,cy ow,cy ow]
 rfl):=h
abbrev anx(h:P:=by
 rw[if_pos h2] at wl;exact abz):=h
abbrev anz(h:P:=by
 rw[if_pos h0] at wl;exact abz):=h
abbrev an0(h:P:=by
 intro x hx;obtain⟨i,hi,rfl⟩:=List.mem_map.1 hx;exact(h4 i (List.mem_range.1 hi)).2.2.2.lt):=h
abbrev an1(h:P:=by
 intro k hk;have H:k=0\/k=1:=ow;rcases H with rfl|rfl
 .simp;omega
 simp;omega):=h
abbrev an2(h:P:=by
 have:=List.all_eq_true.1 hM'.1.1.2 j hj;simp only[Xxx] at this
 simpa using this.2):=h
abbrev an3(h:P:=by
 obtain⟨q,ha,h0,h1,h2,hb⟩:=h;exact⟨q,ha,h0,h1,h2,K.blk hb (Blk.ne2 hb hg dc)⟩):=h
abbrev an4(h:P:=by
 obtain⟨B,rfl,h1,h2,h3⟩:=h;exact ape):=h
abbrev an5(h:P:=by
 rcases hown2.2 with⟨_,h0⟩|⟨g2,cap2,cur2,rfl,_⟩
 .omega
 exact⟨g2,cap2,rfl⟩):=h
abbrev an6(h:P:=by
 have:=List.all_eq_true.1 hM'.1.1.2 j hj;simp only[Xxx,hlj] at this;simp at this):=h
abbrev an7(h:P:=by
 unfold Go.Proofs.YtjgckphgagdpaaaGreatDoor.set4;exact(((h.set _ _).set _ _).set _ _).set _ _):=h
abbrev an8(h:P:=by
 have r:=h.on.2 b (by rw[h.on.1];exact hb');exact r.2 g (by rw[r.1,f.sh.len b hb'];exact hg)):=h
abbrev abv(h:P:=by
 unfold yy at hd;simp only[Xxx,decide_eq_true_eq] at hd;unfold rdN;omega):=h
abbrev an9(h:P:=by
 split
 .exact⟨(dc:(0:Int)<=2),(dc:(2:Int)<=2)⟩
 exact f.kind i hi):=h
abbrev abw(h:P:=by
 simp only[vi,Xxq,Bool.not_eq_false'] at this;exact ar this.1.1):=h
abbrev aoa(h:P:=by
 rw[b] at h;cases h;exact⟨Or.inr ⟨rfl,rfl⟩,Qxz _,λx hx=>sy⟩):=h
abbrev aob(h:P:=by
 rcases ho.2 with⟨_,h0⟩|⟨g2,cap2,cur2,rfl,_⟩
 .omega
 exact⟨g2,cap2,rfl⟩):=h
abbrev aoc(h:P:=by
 rcases h.2 with⟨_,h0⟩|⟨g,cap,cur,hv',_⟩
 .exact h0
 rw[hv] at hv';cases hv'):=h
abbrev aod(h:P:=by
 obtain⟨q,a1,a2,a3⟩:=h.list hn;exact⟨q,a1,a2,K.blk a3 (Blk.ne2 a3 hg dc)⟩):=h
abbrev aoe(h:P:=by
 go_wp2_with fail;go_ret;exact⟨by rw[<-HHH.o];rfl,hWB.trans (hB.mono hWB.size)⟩):=h
abbrev aog(h:P:=by
 exact⟨s,by rw[bq.o.1],Or.inl rfl,by rw[bq.o.2];exact af.self _,HF.o.2.1⟩):=h
abbrev aoh(h:P:=by
 exact⟨0,0,none,0,Qxz _,rfl,rfl,rfl,World.ownsRow_nil _ _ _ _,Below.refl _ _⟩):=h
abbrev aoi(h:P:=by
 rw[if_pos e,e];show 0<=(z i).n-min m (z i).n/\(z i).n-min m (z i).n<=200;omega):=h
abbrev aoj(h:P:=by
 rintro rfl;rcases hown.2 with⟨_,h0⟩|⟨g2,cap2,cur2,h,_⟩
 .omega
 cases h):=h
abbrev aok(h:P:=by
 obtain⟨s',h1,h2,h3,h4,h5,h6⟩:=h;exact⟨s',h1,h2,h3,h4,h5.below hB,h6.below hB⟩):=h
abbrev aol(h:P:=by
 clear x f u B J k3;go_wp2_with fail;go_ret;exact⟨ja,hBw⟩):=h
abbrev aom(h:P:=by
 simp only[Xxq,Bool.not_eq_false',beq_iff_eq] at a;exact Or.inl a.2):=h
abbrev aon(h:P:=by
 go_wp2_with fail
 go_ret2
 exact P9 v.o dc (o.o b f.o).2.2.1):=h
abbrev aoo(h:P:=by
 first|(intro u hu;simp at hu;rcases hu with rfl|rfl<;>rfl)|exact⟨rfl,rfl⟩):=h
abbrev vu(h:P:=by
 exact⟨0,Qxz _,rfl,λj hj=>absurd hj (Qzq _),Below.refl _ _⟩):=h
abbrev abx(h:P:=by
 by_cases h2:d<listed.size
 .simpa[Array.getD,h2] using hd
 simp[Array.getD,h2]):=h
abbrev aop(h:P:=by
 rw[List.find?_eq_none];intro x hx;have:=b.lo x (List.mem_range.1 hx);simp;omega):=h
abbrev aoq(h:P:=by
 obtain⟨q,a0,a1,a2,a3,a4⟩:=k.on;exact⟨q,a0,a1,a2,a3,hg.blk a4 dc⟩):=h
abbrev aor(h:P:=by
 unfold xc;go_wp2_with fail;exact⟨rfl,Or.inr ⟨HF.o.1,rfl⟩,HF.o.2⟩):=h
abbrev aos(h:P:=by
 rw[h.on.1];exact wu λi hi=>h.num f (by rw[<-f.sh.n];exact hi) hg):=h
abbrev Hg(h:P:=by
 rintro e w' ⟨k,r⟩;exact Or.inl ⟨_,_,rfl,ux.self _,awi _,k,r⟩):=h
abbrev ax4(h:P:=by
 go_wp2_with fail;exact hK _ [] _ hS brf (λx hx=>qm) ⟨rfl,rfl⟩):=h
abbrev aot(h:P:=by
 simp only[Xxq,Bool.not_eq_false',beq_iff_eq] at a ⊢;omega):=h
abbrev aou(h:P:=by
 rw[az ow] at hd;rw[fo V _ ow];exact d.val j F hd):=h
abbrev azl(h:P:=by
 exact⟨k+1,ow,vo,by rw[HO3.o],aam,hB⟩):=h
abbrev aov(h:P:=by
 simp only[Bool.or_eq_true,Bool.not_eq_true',beq_eq_false_iff_ne,ne_eq];omega):=h
abbrev aby(h:P:=by
 clear hc1 hc2;go_wp2_with fail;go_ret;rw[HI.o];exact⟨rfl,HEND.o⟩):=h
abbrev aow(h:P:=by
 have:=Vp (cd hr j hjn) hf e;rw[no j hjn] at this;cases this):=h
abbrev abz(h:P:=by
 simp only[Xxq,Bool.not_eq_false',beq_iff_eq] at wl;omega):=h
abbrev ab0(h:P:=by
 rw[fo V _ ow];rw[az ow] at hd;exact h.val j hj hd):=h
abbrev aox(h:P:=by
 intro j hj;by_cases hjk:j=k
 .rw[hjk,hbad]
 exact Hi):=h
abbrev aoy(h:P:=by
 have:=List.length_filter_le (λb => !(b==but)) (gh p);unfold fh;omega):=h
abbrev aoz(h:P:=by
 have:=(List.getElem?_eq_some_iff.1 hj).1;rw[iz] at this;exact this):=h
abbrev ao0(h:P:=by
 go_wp2_with fail;go_ret;exact⟨Or.inr ⟨k,hlt,rfl,hbad,HN.o⟩,hB2⟩):=h
abbrev ab1(h:P:=by
 go_enter func225,ntmps225
 go_wp2
 go_ret;exact⟨vq,rfl⟩):=h
abbrev ao1(h:P:=by
 clear c a;go_wp2_with fail;go_ret;exact⟨ja,hBw⟩):=h
abbrev ao2(h:P:=by
 rename_i x hx;rw[hx] at h;simp only[] at h;cases h;exact⟨_,rfl⟩):=h
abbrev ab2(h:P:=by
 intro j u hj
 match j,hj with
 | 0,hj=>simp at hj;subst hj;simp[Addr.add]):=h
abbrev C0(h:P:=by
 exact⟨0,Qxz _,rfl,λj hj=>absurd hj (Qzq _),hB⟩):=h
abbrev ab3(h:P:=by
 go_wp2_with fail
 go_ret2
 exact⟨aac,hBw⟩):=h
abbrev ao3(h:P:=by
 exact⟨g,ha,h0,h1,h2,hb.typed k dc dc dc⟩):=h
abbrev ao4(h:P:=by
 go_wp2_with fail;go_ret;exact⟨by rw[a.o];rfl,Below.refl _ _⟩):=h
abbrev ab4(h:P:=by
 clear HE;exact zx):=h
abbrev ao5(h:P:=by
 rw[G];by_cases b:i=o
 .rw[if_pos b];rfl
 rw[if_neg b]):=h
abbrev ao6(h:P:=by
 rw[List.find?_eq_none];intro x hx;simp[h x (List.mem_range.1 hx)]):=h
abbrev ao7(h:P:=by
 exact hK v' w' (ajl r1 hA) ⟨none,r2,λk hk=>by cases hk⟩):=h
abbrev ao8(h:P:=by
 rw[e2]
 first|exact r3|(have r3':=r3;rw[e1] at r3';exact r3')):=h
abbrev ab5(h:P:=by
 go_wp2_with fail
 go_ret2
 exact a7.o (Or.inr HM.o) wr A.o):=h
abbrev ao9(h:P:=by
 exact⟨0,none,0,0,Qxz _,rfl,HD.o.2.1,Below.refl _ _⟩):=h
abbrev apa(h:P:=by
 exact(U.set 0 _).congr (λj D=>by match j,D with|0,_=>rfl)):=h
abbrev apb(h:P:=by
 obtain⟨B,h0,h1,h2,h3⟩:=h;exact⟨B,h0,h1,h2,h3.below hB⟩):=h
abbrev apc(h:P:=by
 go_wp2_with fail;go_ret;exact⟨by rw[<-f.o];rfl,rfl⟩):=h
abbrev apd(h:P:=by
 exact⟨0,Qxz _,rfl,by simp[ca],Below.refl _ _⟩):=h
abbrev ape(h:P:=by
 intro x hx;rw[List.mem_singleton] at hx;subst hx;exact h3.lt):=h
abbrev apf(h:P:=by
 go_wp2_with fail;go_ret;exact⟨ja,g.o⟩):=h
abbrev ab6(h:P:=by
 have:=Fx _ _ _ _ key;rw[hl] at this
 simpa using this):=h
abbrev apg(h:P:=by
 exact⟨0,Qxz _,rfl,by simp[ce],Below.refl _ _⟩):=h
abbrev aph(h:P:=by
 unfold rt;rw[afm hk,List.filter_append];simp[hb]):=h
abbrev api(h:P:=by
 rw[h.so.2 j (by rw[h.so.1,f.son];exact hj)];exact f.sob j hj):=h
abbrev apj(h:P:=by
 rw[h.si.2 j (by rw[h.si.1,f.sin];exact hj)];exact f.sib j hj):=h
abbrev apk(h:P:=by
 rw[h.sf.2 j (by rw[h.sf.1,f.sfn];exact hj)];exact f.sfb j hj):=h
abbrev apl(h:P:=by
 rw[h.ms.2 i hi];exact f.move i (by rw[<-h.ms.1];exact hi)):=h
abbrev apm(h:P:=by
 unfold addE;rw[if_pos W,if_pos x,B,if_neg ow]):=h
abbrev apn(h:P:=by
 go_wp2_with fail;go_ret;exact⟨by simp[fk,h0],hBw⟩):=h
abbrev apo(h:P:=by
 rw[List.map_append];rw[<-List.map_take] at r1;exact r1):=h
abbrev zx(h:P:=by
 go_wp2_with fail;go_ret;exact⟨ja,hBw⟩):=h
abbrev app(h:P:=by
 go_wp2_with fail;go_ret;exact⟨aa5,hBw⟩):=h
abbrev apq(h:P:=by
 exact⟨ow,ow,λi hi=>absurd hi ow⟩):=h
abbrev ax5(h:P:=by
 exact P9 v.o dc (o.o b f.o).2.2.1):=h
abbrev apr(h:P:=by
 exact(List.pairwise_map.1 hnd).imp (λh e=>h (by rw[e]))):=h
abbrev aps(h:P:=by
 simp only[Value.slice.injEq] at d;show l.length<=c;omega):=h
abbrev apt(h:P:=by
 rw[<-hl,hke] at h;exact⟨j7.owns h.2.1,hl.symm⟩):=h
abbrev ab8(h:P:=by
 have:=(List.getElem?_eq_some_iff.1 hj).1
 simpa using this):=h
abbrev apu(h:P:=by
 exact⟨rfl,hn,λj hj=>hz j aav⟩):=h
abbrev apv(h:P:=by
 cases h':aw n (df z)
 .rfl
 simp[ip,h'] at h):=h
abbrev apw(h:P:=by
 simp only[Value.slice.injEq] at d;show c<=maxLen;omega):=h
abbrev ab9(h:P:=by
 go_wp2_with fail;go_ret;exact Er):=h
abbrev apx(h:P:=by
 exact⟨k+1,n+4,a3,c3',ow,vo,rfl,HS6.o⟩):=h
abbrev apy(h:P:=by
 by_cases hi:i=b
 .rw[if_pos hi];rfl
 rw[if_neg hi]):=h
abbrev Hh(h:P:=by
 obtain⟨_,h1,_⟩:=h;rw[h1];intro x hx;simp at hx):=h
abbrev aca(h:P:=by
 have:=List.all_eq_true.1 hrem r hr
 simpa using this):=h
abbrev N6(h:P:=by
 exact⟨0,Qxz _,rfl,rfl,Below.refl _ _⟩):=h
abbrev acb(h:P:=by
 rw[az ow] at h1;exact up (h.c15 h1)):=h
abbrev acd(h:P:=by
 intro h0;exact absurd h0 Sw):=h
abbrev ace(h:P:=by
 simp[madeCells,Value.cells,hj,Nat.mod_one]):=h
abbrev acf(h:P:=by
 exact re a _ _ ow ow):=h
abbrev acg(h:P:=by
 exact⟨e,by unfold xf;rw[e];rfl⟩):=h
abbrev ach(h:P:=by
 go_wp2
 go_ret;exact⟨vq,rfl⟩):=h
abbrev N7(h:P:=by
 exact⟨g,d,Qzx c a,b⟩):=h
abbrev aci(h:P:=by
 rw[if_neg hj,if_neg (λe=>hj e.2)]):=h
abbrev Tc(h:P:=by
 rw[if_neg h0] at h;exact absurd h h0):=h
abbrev Td(h:P:=by
 intro u hu;simp at hu;subst hu;rfl):=h
abbrev Er(h:P:=by
 exact⟨rfl,brf.alloc nlr _⟩):=h
abbrev Te(h:P:=by
 simp only[co,ne_eq];omega):=h
abbrev Bc(h:P:=by
 subst c;exact qp _ _):=h
abbrev N8(h:P:=by
 rw[if_neg a] at h;cases h):=h
abbrev Hi(h:P:=by
 exact HN.o j ow):=h
abbrev Bw(w a:Go.World):Prop:=Go.RowKit.Below (w.heap.size) w a
theorem co:(∀{α:Type} (a b:α),(some a=some b)=(a=b))/\(∀a b:Nat,∀c:_,∀d e:Nat,∀f:_,((Go.Addr.mk a b c)=⟨d,e,f⟩)=(a=d/\b=e/\c=f))/\(∀p:Prop,(p/\True)=p):=⟨λa b=>Qkx a b,λa b c d e f=>Go.Addr.mk.injEq a b c d e f,and_true⟩
theorem qa2{a b:Prop}(c:a)(d:b):Go.RowKit.Hid (a/\b):=⟨c,d⟩
theorem qa3{a b c:Prop}(d:a)(e:b)(f:c):Go.RowKit.Hid (a/\b/\c):=⟨d,e,f⟩
theorem qa4{a b c d:Prop}(e:a)(f:b)(g:c)(h:d):Go.RowKit.Hid (a/\b/\c/\d):=⟨e,f,g,h⟩
theorem qa5{a b c d e:Prop}(f:a)(g:b)(h:c)(i:d)(j:e):Go.RowKit.Hid (a/\b/\c/\d/\e):=⟨f,g,h,i,j⟩
theorem qa6{a b c d e f:Prop}(g:a)(h:b)(i:c)(j:d)(k:e)(l:f):Go.RowKit.Hid (a/\b/\c/\d/\e/\f):=⟨g,h,i,j,k,l⟩
theorem qa7{a b c d e f g:Prop}(h:a)(i:b)(j:c)(k:d)(l:e)(m:f)(n:g):Go.RowKit.Hid (a/\b/\c/\d/\e/\f/\g):=⟨h,i,j,k,l,m,n⟩
theorem qa8{a b c d e f g h:Prop}(i:a)(j:b)(k:c)(l:d)(m:e)(n:f)(o:g)(p:h):Go.RowKit.Hid (a/\b/\c/\d/\e/\f/\g/\h):=⟨i,j,k,l,m,n,o,p⟩
theorem hid{p:Prop}(h:p):Go.RowKit.Hid p:=h
theorem nlr:n<=n:=Nat.le_refl n
theorem brf{B:Nat}:Go.RowKit.Below B w w:=Go.RowKit.Below.refl B w
theorem ap{P:Program}{f:Nat}{args:Array Value}{R:Ending->World->Prop}
  (h:Calls P f args w λe w'=>e = .returned v/\w'=w) (k:R (.returned v) w):Calls P f args w R :=
 h.mono (by rintro e w' ⟨rfl,rfl⟩;exact k)
def inB(n low high:Int):Bool:=decide (low<=n/\n<=high)
theorem ar{n:Int}(h:inB n W J=true):W<=n/\n<=J:=by simpa[inB] using h
theorem M9{n:Int}(h:inB n W J=false):¬(W<=n/\n<=J):=by simpa[inB] using h
theorem cy{n:Int}(h:W<=n/\n<=J):inB n W J=true:=by simpa[inB] using h
theorem Rg{n:Int}(h:¬(W<=n/\n<=J)):inB n W J=false:=by simpa[inB] using h
def aw(n:Nat)(bad:Nat->Bool):Bool:=(List.range n).any bad
theorem dj{bad:Nat->Bool}(h:∀j,j<n->bad j=false):aw n bad=false:=by
 unfold aw;rw[List.any_eq_false];intro x hx;simp[h x (List.mem_range.1 hx)]
theorem ir{k:Nat}{bad:Nat->Bool}(a:k<n)(h:bad k=true):aw n bad=true:=by
 unfold aw;rw[List.any_eq_true];exact⟨k,List.mem_range.2 a,h⟩
theorem dv{bad:Nat->Bool}(h:aw n bad=false):∀j,j<n->bad j=false:=by
 intro j b;cases a:bad j
 .rfl
 rw[ir b a] at h;cases h
theorem aic{bad:Nat->Bool}(h:aw n bad=true):∃j,j<n/\bad j=true:=by
 unfold aw at h;rw[List.any_eq_true] at h;obtain⟨x,hx,a⟩:=h;exact⟨x,List.mem_range.1 hx,a⟩
theorem sk{f g:Nat->Bool}(h:∀j,j<n->f j=g j):aw n f=aw n g:=by
 cases b:aw n g
 .exact dj λj a=>(h j a).trans (dv b j a)
 obtain⟨j,a,c⟩:=aic b;exact ir a ((h j a).trans c)
theorem Hq(n:Nat)(f:Nat->Bool):aw (n+1) f=(aw n f||f n):=by
 unfold aw;rw[List.range_succ];simp
structure Bin where
 front:Bool
 room:Int
 low:Int
 high:Int
def Bin.val(x:Bin):Value := .agg #[.bool x.front,.int .i64 x.room,.int .i64 x.low,.int .i64 x.high]
def vi(x:Bin):Bool := !inB x.room 0 1000 || !inB x.low 0 x.high||decide (200<x.high)
def td(x:Int):Bool := !inB x 1 9
def sx(x:Int):Bool := !inB x 0 200
theorem Ht(x:Bin):vi x=(!inB x.room 0 1000 || !inB x.high 0 200 || !inB x.low 0 x.high):=by
 unfold vi inB;rw[Bool.eq_iff_iff];simp only[Bool.or_eq_true,Bool.not_eq_true',decide_eq_true_eq,decide_eq_false_iff_not];omega
def lw(w:World)(a:Option Addr)(n:Nat)(z:Nat->Int):Prop :=
 ∀i,i<n->∃b o,a=some ⟨b,o,none⟩/\b<w.heap.size/\w.cell? ⟨b,o+i,none⟩=some (.int .i64 (z i))
theorem lw.below{a:Option Addr}{z:Nat->Int}(h:lw w a n z)(c:Bw w w'):lw w' a n z:=by
 intro i hi;obtain⟨b,o,e,d,hc⟩:=h i hi;exact⟨b,o,e,Xzx d c.size,(c.cell (p:=⟨b,o+i,none⟩) d).trans hc⟩
def vg(w:World)(a:Option Addr)(n:Nat)(z:Nat->Bin):Prop :=
 ∀i,i<n->∃b o,a=some ⟨b,o,none⟩/\b<w.heap.size/\w.cell? ⟨b,o+i*4,none⟩=some (.bool (z i).front) /\
  w.cell? ⟨b,o+i*4+1,none⟩=some (.int .i64 (z i).room)/\w.cell? ⟨b,o+i*4+2,none⟩=some (.int .i64 (z i).low) /\
  w.cell? ⟨b,o+i*4+3,none⟩=some (.int .i64 (z i).high)
theorem vg.below{a:Option Addr}{z:Nat->Bin}(h:vg w a n z)(hB:Bw w w'):vg w' a n z:=aus
structure Rw where
 a:Option Addr
 n:Nat
 c:Nat
 z:Nat->Int
def Rw.val(r:Rw):Value := .slice r.a r.n r.c
structure Rw.At(w:World)(r:Rw):Prop where
 le:r.n<=r.c
 cap:r.c<=maxLen
 ints:lw w r.a r.n r.z
theorem Rw.At.below{r:Rw}(h:r.At w)(a:Bw w w'):r.At w':=⟨h.le,h.cap,h.ints.below a⟩
def Jb(w:World)(a:Option Addr)(n:Nat)(r:Nat->Rw):Prop :=
 ∀i,i<n->∃b o,a=some ⟨b,o,none⟩/\b<w.heap.size/\w.cell? ⟨b,o+i,none⟩=some (.slice (r i).a (r i).n (r i).c)/\(r i).At w
theorem Jb.below{a:Option Addr}{z:Nat->Rw}(h:Jb w a n z)(c:Bw w w'):Jb w' a n z:=by
 intro i hi;obtain⟨b,o,e,d,hc,f⟩:=h i hi;exact⟨b,o,e,Xzx d c.size,(c.cell (p:=⟨b,o+i,none⟩) d).trans hc,f.below c⟩
structure Pl where
 ab:Option Addr
 nb:Nat
 cb:Nat
 zb:Nat->Bin
 sa:Option Addr
 ns:Nat
 cs:Nat
 zs:Nat->Int
variable{p:Pl}
def Pl.val(p:Pl):Value := .agg #[.slice p.ab p.nb p.cb,.slice p.sa p.ns p.cs]
structure Pl.At(w:World)(p:Pl):Prop where
 leb:p.nb<=p.cb
 capb:p.cb<=maxLen
 bins:vg w p.ab p.nb p.zb
 les:p.ns<=p.cs
 caps:p.cs<=maxLen
 sizes:lw w p.sa p.ns p.zs
theorem Pl.At.below(h:p.At w)(a:Bw w w'):p.At w':=⟨h.leb,h.capb,h.bins.below a,h.les,h.caps,h.sizes.below a⟩
def iu(p:Pl):Int :=
 if inB p.nb 1 6&&inB p.ns 1 3 then(if aw p.nb (λi=>vi (p.zb i))||aw p.ns (λi=>td (p.zs i)) then 3 else 0) else 2
structure Sh where
 a:Option Addr
 n:Nat
 c:Nat
 r:Nat->Rw
def Sh.val(s:Sh):Value := .slice s.a s.n s.c
structure Sh.At(w:World)(s:Sh):Prop where
 le:s.n<=s.c
 cap:s.c<=maxLen
 rows:Jb w s.a s.n s.r
theorem Sh.At.below{s:Sh}(h:s.At w)(a:Bw w w'):s.At w':=⟨h.le,h.cap,h.rows.below a⟩
def qy(p:Pl)(r:Rw):Bool:=((r.n:Int) !=(p.ns:Int))||aw r.n (λi=>sx (r.z i))
def fk(p:Pl)(s:Sh):Int :=
 if iu p==0 then(if ((s.n:Int) !=(p.nb:Int))||aw s.n (λi=>qy p (s.r i)) then 1 else 0) else iu p
structure Xv(p:Pl):Prop where
 nb1:1<=p.nb
 nb6:p.nb<=6
 ns1:1<=p.ns
 ns3:p.ns<=3
 bins:∀i,i<p.nb->vi (p.zb i)=false
 sizes:∀i,i<p.ns->1<=p.zs i/\p.zs i<=9
theorem Nm(h:iu p=0):Xv p:=by
 unfold iu at h;cases d:(inB p.nb 1 6&&inB p.ns 1 3)
 .simp[d] at h
 rw[d] at h;simp only[if_true] at h;cases e:(aw p.nb (λi=>vi (p.zb i))||aw p.ns (λi=>td (p.zs i)))
 .rw[Xxx] at d;have a:=ar d.1;have b:=ar d.2;rw[Xxq] at e;refine⟨ow,ow,ow,ow,dv e.1,λi hi => ?_⟩;have c:=dv e.2 i hi;simp only[td,Bool.not_eq_false'] at c;exact ar c
 simp[e] at h
structure yf(p:Pl)(s:Sh):Prop where
 pl:Xv p
 n:s.n=p.nb
 len:∀i,i<s.n->(s.r i).n=p.ns
 num:∀i,i<s.n->∀j,j<p.ns->0<=(s.r i).z j/\(s.r i).z j<=200
theorem yg{s:Sh}(h:fk p s=0):iu p=0/\yf p s:=by
 unfold fk at h;by_cases d:iu p=0;rotate_left
 .simp[d] at h
 simp only[d,beq_self_eq_true,if_true] at h;cases e:(((s.n:Int) !=(p.nb:Int))||aw s.n (λi=>qy p (s.r i)))
 .rw[Xxq] at e;obtain⟨a,b⟩:=e;have l:s.n=p.nb:=by have g:(s.n:Int)=(p.nb:Int):=(by simpa using a);omega
  have f:∀i,i<s.n->(s.r i).n=p.ns/\∀j,j<(s.r i).n->sx ((s.r i).z j)=false:=by
   intro i hi;have c:=dv b i hi;simp only[qy,Xxq] at c;exact⟨by have g:((s.r i).n:Int)=(p.ns:Int):=(by simpa using c.1);omega,dv c.2⟩
  refine⟨d,Nm d,l,λi hi=>(f i hi).1,λi hi j k => ?_⟩;have c:=(f i hi).2 j (by rw[(f i hi).1];exact k);simp only[sx,Bool.not_eq_false'] at c;exact ar c
 simp[e] at h
def ff(z zs:Nat->Int):Nat->Int
 | 0=>0
 | k+1=>ff z zs k+z k*zs k
def cq(z:Nat->Int):Nat->Int
 | 0=>0
 | k+1=>cq z k+z k
theorem Gv{a b:Int}(ha:0<=a/\a<=200)(c:1<=b/\b<=9):0<=a*b/\a*b<=1800:=amb
theorem zy{z zs:Nat->Int}{n:Nat}(h:∀j,j<n->(0<=z j/\z j<=200)/\1<=zs j/\zs j<=9):∀k,k<=n->0<=ff z zs k/\ff z zs k<=1800*k
 | 0,_=>by simp[ff]
 | k+1,hk=>by
  have a:=zy h k ow;have:=Gv (h k ow).1 (h k ow).2;simp only[ff];omega
theorem G5{z:Nat->Int}{n:Nat}(h:∀j,j<n->0<=z j/\z j<=200):∀k,k<=n->0<=cq z k/\cq z k<=200*k
 | 0,_=>by simp[cq]
 | k+1,hk=>by
  have a:=G5 h k ow;have:=h k ow;simp only[cq];omega
theorem Hj{z z' zs:Nat->Int}:∀{n:Nat},(∀j,j<n->z j=z' j)->ff z zs n=ff z' zs n
 | 0,_=>rfl
 | n+1,h=>by simp only[ff];rw[Hj (n:=n) λj a=>h j ow,h n ow]
theorem wu{z z':Nat->Int}:∀{n:Nat},(∀j,j<n->z j=z' j)->cq z n=cq z' n
 | 0,_=>rfl
 | n+1,h=>by simp only[cq];rw[wu (n:=n) λj a=>h j ow,h n ow]
def yb(p:Pl)(s:Sh)(bin:Int):Int:=if fk p s==0 then(if inB bin 0 ((s.n:Int)-1) then 0 else 3) else fk p s
def L7(p:Pl)(s:Sh)(bin:Int):Int:=if yb p s bin==0 then ff (s.r bin.toNat).z p.zs p.ns else 0
def Lt(p:Pl)(s:Sh)(good:Int):Int:=if fk p s==0 then(if inB good 0 ((p.ns:Int)-1) then 0 else 3) else fk p s
def Qe(p:Pl)(s:Sh)(good:Int):Int:=if Lt p s good==0 then cq (λi=>(s.r i).z good.toNat) s.n else 0
def xy(p:Pl)(s:Sh)(bin good:Int):Int:=if fk p s==0 then(if inB bin 0 ((p.nb:Int)-1)&&inB good 0 ((p.ns:Int)-1) then 0 else 3) else fk p s
def I4(p:Pl)(s:Sh)(bin good n:Int):Int :=
 if xy p s bin good==0 then(if inB n (-((s.r bin.toNat).z good.toNat)) (200-(s.r bin.toNat).z good.toNat) then 0 else 3) else xy p s bin good
def I5(s:Sh)(bin good n:Int)(i j:Nat):Int:=if i=bin.toNat/\j=good.toNat then(s.r i).z j+n else(s.r i).z j
def Qs(p:Pl)(s:Sh)(bin good n:Int)(w':World)(v:Value):Prop :=
 if I4 p s bin good n=0 then ∃s':Sh,v=s'.val/\s'.At w'/\s'.n=s.n/\∀i,i<s.n->(s'.r i).n=(s.r i).n/\∀j,j<(s.r i).n->(s'.r i).z j=I5 s bin good n i j
 else v = .slice none 0 0
theorem Qs.below{s:Sh}{bin good n:Int}(h:Qs p s bin good n w v)(e:Bw w w'):Qs p s bin good n w' v:=by
 unfold Qs at *
 split
 .rename_i a;rw[if_pos a] at h;obtain⟨f,b,c,d⟩:=h;exact⟨f,b,c.below e,d⟩
 rename_i a
 rwa[if_neg a] at h
theorem I8{s:Sh}{bin good:Int}(a:fk p s=0):xy p s bin good=if inB bin 0 ((s.n:Int)-1)&&inB good 0 ((p.ns:Int)-1) then 0 else 3:=by
 have:=(yg a).2.n;simp[xy,a,this]
def fc(c:UInt8)(acc:List UInt8):List UInt8->List (List UInt8)
 | []=>[acc]
 | b :: t=>if b=c then acc :: fc c [] t else fc c (acc++[b]) t
theorem La{c:UInt8}:∀{t acc:List UInt8},c ∉ t->fc c acc t=[acc++t]
 | [],acc,_=>by simp[fc]
 | b :: t,acc,h=>by
  have a:¬b=c:=λe=>h N3;rw[fc,if_neg a,La λe=>h (List.mem_cons_of_mem _ e)];simp
theorem V4{c:UInt8}:∀{a b acc:List UInt8},c ∉ a->fc c acc (a++c :: b)=(acc++a) :: fc c [] b
 | [],b,acc,_=>by simp[fc]
 | x :: a,b,acc,h=>by
  have d:¬x=c:=λe=>h N3;rw[Xqz,fc,if_neg d,V4 λe=>h (List.mem_cons_of_mem _ e)];simp
def mp(c:UInt8)(acc:List UInt8):List UInt8->List (List UInt8)
 | []=>[]
 | b :: t=>if b=c then acc :: mp c [] t else mp c (acc++[b]) t
theorem Rm{c:UInt8}:∀{a b acc:List UInt8},c ∉ a->mp c acc (a++c :: b)=(acc++a) :: mp c [] b
 | [],b,acc,_=>by simp[mp]
 | x :: a,b,acc,h=>by
  have d:¬x=c:=λe=>h N3;rw[Xqz,mp,if_neg d,Rm λe=>h (List.mem_cons_of_mem _ e)];simp
theorem Co{c:UInt8}:∀{t acc:List UInt8},(mp c acc t).length=t.count c
 | [],_=>rfl
 | b :: t,acc=>by
  by_cases h:b=c
  .rw[mp,if_pos h,List.length_cons,Co,h,List.count_cons_self]
  rw[mp,if_neg h,Co,List.count_cons_of_ne h]
theorem Na{c:UInt8}{s:List UInt8}:(Lib.index s [c] = -1/\c ∉ s)\/∃i:Nat,Lib.index s [c]=i/\s=s.take i++c :: s.drop (i+1)/\c ∉ s.take i:=by
 have d:∀j,Lib.occAt s [c] j=true↔s[j]?=some c:=λj=>by
  constructor
  .exact λh=>Lib.occAt_head rfl h
  intro h;have b:j<s.length:=(List.getElem?_eq_some_iff.1 h).1;rw[Lib.occAt_iff_take s [c] j oq];rw[beq_iff_eq];rw[List.getElem?_eq_some_iff] at h;obtain⟨m,g⟩:=h;rw[List.drop_eq_getElem_cons m,g]
  rfl
 by_cases l:c∈s;rotate_left
 .left
  refine⟨Lib.index_none λj _ => ?_,l⟩;cases h:Lib.occAt s [c] j
  .rfl
  exact absurd (List.mem_of_getElem? ((d j).1 h)) l
 right
 have a:s.idxOf c<s.length:=List.idxOf_lt_length_iff.2 l;have k:s[s.idxOf c]?=some c:=by
  rw[List.getElem?_eq_some_iff];exact⟨a,List.getElem_idxOf a⟩
 have f:∀j,j<s.idxOf c->s[j]?≠some c:=λj b h=>by
  obtain⟨m,g⟩:=List.getElem?_eq_some_iff.1 h;have:=List.not_of_lt_findIdx (p:=(·==c)) (xs:=s) (i:=j) b;simp[g] at this
 refine⟨s.idxOf c,Lib.index_first ow ((d _).2 k) (λj b => ?_),?_,?_⟩
 .cases h:Lib.occAt s [c] j
  .rfl
  exact absurd ((d j).1 h) (f j b)
 .conv=>lhs;rw[<-List.take_append_drop (s.idxOf c) s]
  rw[List.drop_eq_getElem_cons a,List.getElem_idxOf a]
 intro h;obtain⟨j,b,e⟩:=List.mem_iff_getElem.1 h;rw[List.length_take] at b;refine f j ow ?_;rw[List.getElem_take] at e;rw[List.getElem?_eq_some_iff];exact⟨ow,e⟩
theorem U8{c:UInt8}:∀(n:Nat) {s:List UInt8},s.length<=n->Lib.count s [c]=s.count c
 | n,s,hn=>by
  rcases Na (c:=c) (s:=s) with⟨h,a⟩|⟨i,h,hs,a⟩
  .rw[Lib.count_miss h,List.count_eq_zero.2 a]
  rw[Lib.count_hit vq h];have b:s.length=i+1+(s.drop (i+1)).length:=by
   have:=congrArg List.length hs;simp only[List.length_append,List.length_cons,List.length_take,List.length_drop] at this ⊢;omega
  cases n with
  | zero=>omega
  | succ n =>
   rw[List.length_singleton,U8 n (s:=s.drop (i+1)) ow]
   conv=>rhs;rw[hs]
   rw[List.count_append,List.count_eq_zero.2 a,List.count_cons_self];omega
theorem Pr{c:UInt8}:∀(k:Nat) {s:List UInt8},s.count c<=k->Lib.splitK [c] 0 k s=fc c [] s
 | 0,s,h=>by
  rw[La (List.count_eq_zero.1 (Nat.le_zero.1 h))]
  rfl
 | k+1,s,h=>by
  rcases Na (c:=c) (s:=s) with⟨a,b⟩|⟨i,a,hs,b⟩
  .rw[La b,Lib.splitK,if_pos (by rw[a];rfl)]
   rfl
  rw[Lib.splitK,if_neg (by rw[a];simp),a,Int.toNat_natCast,Nat.add_zero,List.length_singleton]
  conv=>rhs;rw[hs]
  rw[V4 b,Xqx,Pr k];have d:=h;rw[hs,List.count_append,List.count_eq_zero.2 b,List.count_cons_self] at d;omega
theorem Qy(s:ByteArray)(c:UInt8):Lib.countB s ⟨#[c]⟩=s.data.toList.count c:=U8 _ nlr
theorem adt(s:ByteArray)(c:UInt8):(Lib.splitB ⟨#[c]⟩ 0 (Lib.countB s ⟨#[c]⟩) s).map (·.data.toList)=fc c [] s.data.toList:=by
 rw[Lib.splitB_data,Qy];exact Pr _ nlr
theorem Ef{c:UInt8}:∀{t acc:List UInt8},(fc c acc t).length=t.count c+1
 | [],_=>rfl
 | b :: t,acc=>by
  by_cases h:b=c
  .rw[fc,if_pos h,List.length_cons,Ef,h,List.count_cons_self]
  rw[fc,if_neg h,Ef,List.count_cons_of_ne h]
theorem av5{c:UInt8}{a b:List UInt8}(h:c ∉ a):Lib.cut (a++c :: b) [c]=(a,b,true):=by
 rcases Na (c:=c) (s:=a++c :: b) with⟨_,d⟩|⟨i,e,hs,d⟩
 .exact absurd vq d
 have hi:i=a.length:=by
  rcases Nat.lt_trichotomy i a.length with f|g|j
  .exfalso;have:(a++c :: b)[i]?=some c:=by
    rw[hs,List.getElem?_append_right alh];rw[List.length_take,Nat.min_eq_left oq,Nat.sub_self]
    rfl
   rw[List.getElem?_append_left f] at this;exact h (List.mem_of_getElem? this)
  .exact g
  exfalso
  apply d
  rw[List.take_append,List.mem_append]
  right
  have:i-a.length=(i-a.length-1)+1:=ow;rw[this,Qyx];simp
 unfold Lib.cut;rw[if_pos (by rw[e];omega),e,Int.toNat_natCast,hi,List.take_left,List.length_singleton,List.drop_append,List.drop_eq_nil_of_le ow];simp
/-! Numbers. -/
def yy(b:UInt8):Bool:=decide (48<=b.toNat)&&decide (b.toNat<=57)
def ve(l:List UInt8):Nat:=l.foldl (λn b=>10*n+(b.toNat-48)) 0
def ie(l:List UInt8):Int:=if (1<=l.length/\l.length<=6)/\l.all yy=true/\Lib.decDigits (ve l)=l then(ve l:Int) else -1
theorem Vy(l:List UInt8)(b:UInt8):ve (l++[b])=10*ve l+(b.toNat-48):=by
 unfold ve;rw[List.foldl_append]
 rfl
theorem Ol(h:u<10):(UInt8.ofNat (48+u)).toNat=48+u:=by
 show(48+u)%256=48+u;omega
theorem Y6(h:u<10):yy (UInt8.ofNat (48+u))=true:=by
 unfold yy;rw[Ol h];simp only[Xxx,decide_eq_true_eq];omega
theorem Hw(u:Nat):ve (Lib.decDigits u)=u/\(Lib.decDigits u).all yy=true:=by
 induction u using Nat.strongRecOn with
 | _ u ih =>
  by_cases h:u<10
  .rw[Lib.decDigits_one h];refine⟨?_,by rw[List.all_cons,Y6 h];rfl⟩;show 10*0+((UInt8.ofNat (48+u)).toNat-48)=u;rw[Ol h];omega
  obtain⟨a,b⟩:=ih (u/10) ow;rw[Lib.decDigits,dif_neg h];refine⟨?_,by rw[List.all_append,b,List.all_cons,Y6 (show u%10<10 by omega)];rfl⟩;rw[Vy,a,Ol ow];omega
theorem Oj(h:u<=999999):1<=(Lib.decDigits u).length/\(Lib.decDigits u).length<=6:=by
 rw[Lib.decDigits_length];refine⟨Lib.nDigits_pos u,?_⟩;have:=Lib.lt_pow_nDigits u;by_cases c:Lib.nDigits u<=6
 .exact c
 exfalso;obtain⟨k,e⟩:∃k,Lib.nDigits u=k+7:=⟨Lib.nDigits u-7,ow⟩;have:∀(k u:Nat),Lib.nDigits u=k+1->10^k<=u\/k=0:=by
  intro k
  induction k with
  | zero=>intro u _;exact Or.inr rfl
  | succ k ih =>
   intro u d;by_cases b:u<10
   .rw[Lib.nDigits_small b] at d;omega
   rw[Lib.nDigits_big b] at d
   left
   rcases ih (u/10) ow with a|a
   .rw[Nat.pow_succ];omega
   subst a;simp;omega
 rcases this (k+6) u ow with a|a
 .have:10^6<=10^(k+6):=Nat.pow_le_pow_right dc ow;omega
 omega
theorem ara(h:u<=999999):ie (Lib.decDigits u)=u:=by
 unfold ie;rw[if_pos ⟨Oj h,(Hw u).2,by rw[(Hw u).1]⟩,(Hw u).1]
theorem Kh:∀(l:List UInt8) (acc k:Nat),l.all yy=true->acc<10^k->l.foldl (λn b=>10*n+(b.toNat-48)) acc<10^(k+l.length)/\(k+l.length<=12->Lib.parseUint10 acc l = .ok (l.foldl (λn b=>10*n+(b.toNat-48)) acc))
 | [],acc,k,_,ha=>⟨ha,λ_=>rfl⟩
 | b :: l,acc,k,h,ha=>by
  rw[List.all_cons,Xxx] at h;have a:=h.1;unfold yy at a;simp only[Xxx,decide_eq_true_eq] at a;have d:10*acc+(b.toNat-48)<10^(k+1):=by rw[Nat.pow_succ];omega
  obtain⟨e,f⟩:=Kh l (10*acc+(b.toNat-48)) (k+1) h.2 d;rw[List.foldl_cons,List.length_cons,show k+(l.length+1)=k+1+l.length by omega];refine⟨e,λc => ?_⟩;have g:10^(k+1)<=10^12:=Nat.pow_le_pow_right dc ow;rw[Lib.parseUint10,if_pos a,if_neg ow,if_neg ow,show acc*10+(b.toNat-48)=10*acc+(b.toNat-48) by omega];exact f c
theorem ad8(l:List UInt8)(h:l.all yy=true):ve l<10^l.length:=by
 have:=(Kh l 0 0 h dc).1;rw[Nat.zero_add] at this;exact this
theorem Rp(l:List UInt8):ie l = -1\/∃u:Nat,u<=999999/\ie l=u/\l=Lib.decDigits u:=by
 unfold ie;by_cases h:(1<=l.length/\l.length<=6)/\l.all yy=true/\Lib.decDigits (ve l)=l
 .right
  rw[if_pos h];refine⟨ve l,?_,rfl,h.2.2.symm⟩;have a:=ad8 l h.2.1;have b:10^l.length<=10^6:=Nat.pow_le_pow_right dc h.1.2;omega
 left;rw[if_neg h]
/-! What strconv.Atoi answers. -/
def uz(l:List UInt8):Int:=match Lib.atoiAll l with|.ok v=>v|.range=>Lib.atoiSat l|_=>0
theorem aqw(h:u<=999999):uz (Lib.decDigits u)=u:=by
 obtain⟨g,a⟩:=Hw u;obtain⟨b,j⟩:=Oj h;have f:Lib.parseMag (Lib.decDigits u) = .ok u:=by
  unfold Lib.parseMag;rw[if_neg (λe=>by rw[e] at b;exact absurd b dc),(Kh _ 0 0 a dc).2 ow];exact congrArg _ g
 unfold uz Lib.atoiAll;cases e:Lib.decDigits u with
 | nil=>rw[e] at b;exact absurd b dc
 | cons c r =>
  rw[e] at f a;rw[List.all_cons,Xxx] at a;have d:=a.1;unfold yy at d;simp only[Xxx,decide_eq_true_eq] at d;have i:¬(c.toNat=43\/c.toNat=45):=ow;have n2:¬c.toNat=45:=ow;simp only[if_neg i,f,if_neg n2];rw[if_neg ow,if_neg ow]
def H4(l:List UInt8):Bool:=inB (uz l) 0 999999&&(Lib.itoa (uz l)==l)
theorem aiy(l:List UInt8):(H4 l=true/\uz l=ie l/\0<=ie l/\ie l<=999999)\/(H4 l=false/\ie l = -1):=by
 rcases Rp l with h|⟨u,b,h,rfl⟩
 .right
  refine⟨?_,h⟩;cases g:H4 l
  .rfl
  exfalso;unfold H4 at g;rw[Xxx,beq_iff_eq] at g;have d:=ar g.1;obtain⟨v,c⟩:∃v:Nat,uz l=v:=⟨(uz l).toNat,ow⟩;rw[c,Lib.itoa_nonneg] at g;have:=ara (u:=v) ow;rw[g.2] at this;omega
 left
 have a:=aqw b;refine⟨?_,by rw[a,h],ow,ow⟩;unfold H4;rw[a,Lib.itoa_nonneg,Xxx];exact⟨cy ow,vq⟩
open Go.Shelf
def Dq:Go.Shelf.Ren:=⟨λ|100=>9|129=>164|138=>8|143=>22|145=>10|146=>28|156=>68|165=>100|166=>11|169=>13|171=>27|172=>52|195=>20|197=>119|205=>171|207=>23|217=>82|218=>21|219=>48|220=>24|221=>51|224=>84|225=>83|240=>25|241=>155|243=>50|244=>88|245=>89|246=>86|247=>120|260=>168|266=>113|267=>85|268=>87|276=>49|277=>212|279=>121|280=>122|281=>123|282=>124|283=>115|284=>116|285=>117|286=>118|287=>169|314=>114|316=>170|317=>163|318=>165|319=>166|320=>167|321=>218|322=>219|337=>216|338=>217|n=>n,λ|31=>65|37=>44|46=>129|51=>145|53=>149|59=>47|70=>43|72=>46|75=>50|76=>51|80=>54|85=>157|105=>154|119=>242|127=>79|138=>244|139=>245|143=>248|145=>250|164=>97|167=>156|168=>159|171=>148|173=>152|175=>198|210=>201|212=>195|213=>196|232=>258|233=>259|n=>n,λ|1=>0|3=>4|4=>5|15=>2|16=>3|17=>1|18=>6|19=>7|n=>n⟩
abbrev ym(h:P:=by repeat' first|kernel_rfl|(intros;kernel_rfl)|decide|constructor):=h
theorem ahy:Go.Proofs.Lays.n166 prog Dq:=ym
theorem uy:Builder.Extra prog Dq:=ym
theorem ahz:Go.Proofs.Lays.n169 prog Dq:=ym
theorem Uy:Go.Proofs.Lays.n156 prog Dq:=ym
theorem aet:Go.Proofs.LaysM.n171 prog Dq:=ym
theorem J6:Go.Proofs.LaysC.n172 prog Dq:=ym
theorem ahw:Go.Proofs.Lays.n145 prog Dq:=ym
theorem ahv:Go.Proofs.Lays.n138 prog Dq:=ym
theorem ahu:Go.Proofs.Lays.n100 prog Dq:=ym
theorem ahx:Go.Proofs.Lays.n146 prog Dq:=ym
def rdN(t:List UInt8)(i:Nat):Int:=((t.getD i 0).toNat:Int)
theorem axg(t:List UInt8)(i:Nat):0<=rdN t i/\rdN t i<=255:=by
 unfold rdN;have:=(t.getD i 0).toNat_lt;omega
theorem dm(n low high:Int)(w:World):
  Calls prog 43 #[.int .i64 n,.int .i64 low,.int .i64 high] w λe w'=>e = .returned (.bool (inB n low high))/\w'=w:=by
 unfold inB;go_enter func43,ntmps43
 go_wp2
 all_goals go_ret
 all_goals refine⟨?_,rfl⟩
 all_goals simp
 all_goals omega
theorem da(n low high:Int)(w:World):
  Calls prog 34 #[.int .i64 n,.int .i64 low,.int .i64 high] w λe w'=>e = .returned (.bool (inB n low high))/\w'=w:=by
 unfold inB;go_enter func34,ntmps34
 go_wp2
 all_goals go_ret
 all_goals refine⟨?_,rfl⟩
 all_goals simp
 all_goals omega
theorem Ui(x:Bin)(w:World):
  Calls prog 44 #[x.val] w λe w'=>e = .returned (.bool (vi x))/\Bw w w':=by
 unfold vi Bin.val;go_enter func44,ntmps44;go_wp2_with(go_at_call 43;refine ap (dm _ _ _ _) ?_)
 all_goals go_ret
 all_goals exact⟨by simp[*],brf.alloc nlr _⟩
theorem Uj(x:Int)(w:World):
  Calls prog 45 #[.int .i64 x] w λe w'=>e = .returned (.bool (td x))/\w'=w:=by
 unfold td;go_enter func45,ntmps45;go_wp2_with(go_at_call 43;refine ap (dm _ _ _ _) ?_)
 all_goals go_ret
 all_goals exact⟨rfl,rfl⟩
theorem azd(f:Nat)(caps:Array Value)(bad:Nat->Bool)(a:Option Addr)(n c:Nat)(w:World)(p:n<=c)(hc:c<=maxLen)(z:Nat->Int)(hz:lw w a n z)
  (l:∀args w,(callFunc f args).run prog w = .ok (.enter f args) w)
  (hf:Hid (∀i w1,i<n->Bw w w1->Calls prog f (#[.int .i64 (z i)]++caps) w1 λe w'=>e = .returned (.bool (bad i))/\Bw w1 w')) :
  Calls prog 81 #[.slice a n c,.func (.func f) #[] caps] w λe w'=>∃r:Int,e = .returned (.int .i64 r)/\decide (0<=r)=aw n bad/\Bw w w':=by
 unfold maxLen at hc;go_enter func81,ntmps81;go_wp2_with fail
 go_loopw [8] (λi w1=>∃k:Nat,k<=n/\i = .int .i64 k/\(∀j,j<k->bad j=false)/\Bw w w1) (λi _=>n-(intOf i).toNat)
 case atStart=>exact vu
 obtain⟨k,m,rfl,d,hB⟩:=hrel;have HN:=hid d;clear d;by_cases hlt:k<n
 .obtain⟨b,o,rfl,_,g⟩:=(hz.below hB) k hlt;exact Xj
 exact Tb
theorem aze(f:Nat)(caps:Array Value)(bad:Nat->Bool)(a:Option Addr)(n c:Nat)(w:World)(p:n<=c)(hc:c<=maxLen)(r:Nat->Rw)(hz:Jb w a n r)
  (l:∀args w,(callFunc f args).run prog w = .ok (.enter f args) w)
  (hf:Hid (∀i w1,i<n->Bw w w1->Calls prog f (#[.slice (r i).a (r i).n (r i).c]++caps) w1 λe w'=>e = .returned (.bool (bad i))/\Bw w1 w')) :
  Calls prog 228 #[.slice a n c,.func (.func f) #[] caps] w λe w'=>∃r:Int,e = .returned (.int .i64 r)/\decide (0<=r)=aw n bad/\Bw w w':=by
 unfold maxLen at hc;go_enter func228,ntmps228;go_wp2_with fail
 go_loopw [8] (λi w1=>∃k:Nat,k<=n/\i = .int .i64 k/\(∀j,j<k->bad j=false)/\Bw w w1) (λi _=>n-(intOf i).toNat)
 case atStart=>exact vu
 obtain⟨k,m,rfl,d,hB⟩:=hrel;have HN:=hid d;clear d;by_cases hlt:k<n
 .obtain⟨b,o,rfl,_,g,_⟩:=(hz.below hB) k hlt;exact Xj
 exact Tb
theorem azc(f:Nat)(caps:Array Value)(bad:Nat->Bool)(a:Option Addr)(n c:Nat)(w:World)(g:n<=c)(hc:c<=maxLen)(z:Nat->Bin)(hz:vg w a n z)
  (d:∀args w,(callFunc f args).run prog w = .ok (.enter f args) w)
  (hf:Hid (∀i w1,i<n->Bw w w1->Calls prog f (#[(z i).val]++caps) w1 λe w'=>e = .returned (.bool (bad i))/\Bw w1 w')) :
  Calls prog 80 #[.slice a n c,.func (.func f) #[] caps] w λe w'=>∃r:Int,e = .returned (.int .i64 r)/\decide (0<=r)=aw n bad/\Bw w w':=by
 unfold maxLen at hc;go_enter func80,ntmps80;exact Xh
theorem aqu(f:Nat)(caps:Array Value)(bad:Nat->Bool)(a:Option Addr)(n c:Nat)(w:World)(j:n<=c)(hc:c<=maxLen)(z:Nat->Int)(k:lw w a n z)
  (d:∀args w,(callFunc f args).run prog w = .ok (.enter f args) w)
  (g:Hid (∀i w1,i<n->Bw w w1->Calls prog f (#[.int .i64 (z i)]++caps) w1 λe w'=>e = .returned (.bool (bad i))/\Bw w1 w')) :
  Calls prog 47 #[.slice a n c,.func (.func f) #[] caps] w λe w'=>e = .returned (.bool (aw n bad))/\Bw w w':=by
 have b:=hc;unfold maxLen at hc;go_enter func47,ntmps47;go_wp2_with fail;refine(azd f caps bad a n c w j b z k d g).mono ?_;exact Hf
theorem azb(f:Nat)(caps:Array Value)(bad:Nat->Bool)(a:Option Addr)(n c:Nat)(w:World)(j:n<=c)(hc:c<=maxLen)(r:Nat->Rw)(k:Jb w a n r)
  (d:∀args w,(callFunc f args).run prog w = .ok (.enter f args) w)
  (g:Hid (∀i w1,i<n->Bw w w1->Calls prog f (#[.slice (r i).a (r i).n (r i).c]++caps) w1 λe w'=>e = .returned (.bool (bad i))/\Bw w1 w')) :
  Calls prog 197 #[.slice a n c,.func (.func f) #[] caps] w λe w'=>e = .returned (.bool (aw n bad))/\Bw w w':=by
 have b:=hc;unfold maxLen at hc;go_enter func197,ntmps197;go_wp2_with fail;refine(aze f caps bad a n c w j b r k d g).mono ?_;exact Hf
theorem aw6(f:Nat)(caps:Array Value)(bad:Nat->Bool)(a:Option Addr)(n c:Nat)(w:World)(j:n<=c)(hc:c<=maxLen)(z:Nat->Bin)(k:vg w a n z)
  (d:∀args w,(callFunc f args).run prog w = .ok (.enter f args) w)
  (g:Hid (∀i w1,i<n->Bw w w1->Calls prog f (#[(z i).val]++caps) w1 λe w'=>e = .returned (.bool (bad i))/\Bw w1 w')) :
  Calls prog 46 #[.slice a n c,.func (.func f) #[] caps] w λe w'=>e = .returned (.bool (aw n bad))/\Bw w w':=by
 have b:=hc;unfold maxLen at hc;go_enter func46,ntmps46;go_wp2_with fail;refine(azc f caps bad a n c w j b z k d g).mono ?_;exact Hf
theorem ar5(a:Bw w w'):(∀b o,b<w.heap.size->w'.cell? ⟨b,o,none⟩=w.cell? ⟨b,o,none⟩)/\(∀b o,b<w.heap.size->w'.frozen? ⟨b,o,none⟩=w.frozen? ⟨b,o,none⟩):=
 ⟨λb o h=>a.cell (p:=⟨b,o,none⟩) h,λb o h=>a.frozen (p:=⟨b,o,none⟩) h⟩
theorem Bj(p:Pl)(w:World)(n:p.At w):
  Calls prog 18 #[p.val] w λe w'=>e = .returned (.int .i64 (iu p))/\Bw w w':=by
 obtain⟨leb,capb,bins,les,caps,sizes⟩:=n;have b:=capb;have c:=caps;unfold Pl.val;unfold maxLen at capb caps;have b1:=bins.below ((Below.refl w.heap.size w).alloc nlr (.cells #[.slice p.ab p.nb p.cb,.slice p.sa p.ns p.cs] 25));cases d:inB p.nb 1 6
 .go_enter func18,ntmps18;go_wp2_with(go_at_call 43;refine ap (dm _ _ _ _) ?_);go_ret;exact⟨by simp[iu,d],brf.alloc nlr _⟩
 cases f:inB p.ns 1 3
 .go_enter func18,ntmps18;go_wp2_with(go_at_call 43;refine ap (dm _ _ _ _) ?_);go_ret;exact⟨by simp[iu,f],brf.alloc nlr _⟩
 go_enter func18,ntmps18;go_wp2_with(go_at_call 43;refine ap (dm _ _ _ _) ?_);refine(aw6 44 #[] (λi=>vi (p.zb i)) _ _ _ _ leb b p.zb b1 (enters_of func44 ko rfl) (λi w1 _ _=>by rw[Array.append_empty];exact Ui _ _)).mono ?_;rintro e w1 ⟨rfl,l⟩;obtain⟨hc,q⟩:=ar5 l;have a:Bw w w1:=((Below.refl w.heap.size w).alloc nlr _).trans (l.mono vq);have s1:=sizes.below a;cases j:aw p.nb (λi=>vi (p.zb i))
 .go_wp2_with fail;refine(aqu 45 #[] (λi=>td (p.zs i)) _ _ _ _ les c p.zs s1 (enters_of func45 ko rfl) (λi o _ _=>by rw[Array.append_empty];exact(Uj _ _).mono λ_ _ h=>⟨h.1,h.2▸Below.refl _ _⟩)).mono ?_;rintro e o ⟨rfl,m⟩;have g:=a.trans (m.mono a.size);cases k:aw p.ns (λi=>td (p.zs i))
  .go_wp2_with fail;go_ret;exact⟨by simp[iu,d,f,j,k],g⟩
  go_wp2_with fail;go_ret;exact⟨by simp[iu,d,f,k],g⟩
 go_wp2_with fail;go_ret;exact⟨by simp[iu,d,f,j],a⟩
theorem G4(p:Pl)(w:World)(z:p.At w):
  Calls prog 14 #[p.val] w λe w'=>e = .returned (.int .i64 (iu p))/\Bw w w':=by
 obtain⟨ab,nb,cb,zb,sa,ns,cs,zs⟩:=p;obtain⟨leb,capb,bins,les,caps,sizes⟩:=z;dsimp only at leb capb bins les caps sizes;simp only[Pl.val];unfold maxLen at capb caps;cases n:inB nb 1 6
 .go_enter func14,ntmps14;go_wp2_with(go_at_call 34;refine ap (da _ _ _ _) ?_);go_ret;exact⟨by simp[iu,n],brf.alloc nlr _⟩
 cases q:inB ns 1 3
 .go_enter func14,ntmps14;go_wp2_with(go_at_call 34;refine ap (da _ _ _ _) ?_);go_ret;exact⟨by simp[iu,q],brf.alloc nlr _⟩
 have c:=qa2 n q;go_enter func14,ntmps14;go_wp2_with(go_at_call 34;refine ap (da _ _ _ _) ?_);clear n q
 go_loopw [3] (λi w1=>∃k:Nat,k<=nb/\i = .int .i64 k/\(∀j,j<k->vi (zb j)=false)/\Below (w.heap.size+1) (w.alloc (.cells #[.slice ab nb cb,.slice sa ns cs] 25)) w1) (λi _=>nb-(intOf i).toNat)
 case atStart=>exact vu
 obtain⟨k,y,rfl,f,hB⟩:=hrel;have HN:=hid f;clear f;have a:Bw w wr:=((Below.refl w.heap.size w).alloc nlr _).trans (hB.mono ow);have hs:w.heap.size+1<=wr.heap.size:=Z9;have u:wr.cell? ⟨w.heap.size,0,none⟩=some (.slice ab nb cb):=(hB.cell (p:=⟨w.heap.size,0,none⟩) vq).trans vq;have c1:wr.cell? ⟨w.heap.size,1,none⟩=some (.slice sa ns cs):=(hB.cell (p:=⟨w.heap.size,1,none⟩) vq).trans vq;by_cases d:k<nb
 .obtain⟨b,o,rfl,v,B,D,E,F⟩:=(bins.below a) k d;have g:=Ht (zb k);cases hbad:vi (zb k)
  .rw[hbad] at g;have x:inB (zb k).room 0 1000=true/\inB (zb k).high 0 200=true/\inB (zb k).low 0 (zb k).high=true:=by simpa[and_assoc] using g.symm
   obtain⟨l,s,A⟩:=x;clear g;go_wp2_with(go_at_call 34;refine ap (da _ _ _ _) ?_);go_roundw
   case measure=>simp[intOf];omega
   refine⟨k+1,ow,vo,?_,hB.alloc (by simpa using hs) _⟩;exact aox
  rw[hbad] at g;have m:Hid (aw nb (λi=>vi (zb i))=true):=ir d hbad;cases l:inB (zb k).room 0 1000
  .exact abg
  cases s:inB (zb k).high 0 200
  .exact abg
  have A:inB (zb k).low 0 (zb k).high=false:=by simpa[l,s] using g.symm
  exact abg
 go_wp2_with fail;have m:aw nb (λi=>vi (zb i))=false:=dj λj hj=>HN.o j ow;have t:=hid m;clear m d HN bins
 go_loopw [5] (λi w1=>∃k:Nat,k<=ns/\i = .int .i64 k/\(∀j,j<k->td (zs j)=false)/\Below (w.heap.size+1) (w.alloc (.cells #[.slice ab nb cb,.slice sa ns cs] 25)) w1) (λi _=>ns-(intOf i).toNat)
 case atStart=>exact C0
 clear hB a hs u c1;obtain⟨k,y,rfl,f,hB⟩:=hrel;have HN:=hid f;clear f;have a:Bw w wr:=((Below.refl w.heap.size w).alloc nlr _).trans (hB.mono ow);have c1:wr.cell? ⟨w.heap.size,1,none⟩=some (.slice sa ns cs):=(hB.cell (p:=⟨w.heap.size,1,none⟩) vq).trans vq;by_cases d:k<ns
 .obtain⟨b,o,rfl,v,B⟩:=(sizes.below a) k d;cases l:inB (zs k) 1 9
  .have r:Hid (aw ns (λi=>td (zs i))=true):=ir d (by simp[td,l]);go_wp2_with(go_at_call 34;refine ap (da _ _ _ _) ?_);go_ret;exact⟨by simp[iu,c.o.1,c.o.2,r.o],a⟩
  have hbad:Hid (td (zs k)=false):=by show td (zs k)=false;simp[td,l]
  go_wp2_with(go_at_call 34;refine ap (da _ _ _ _) ?_);go_roundw
  case measure=>simp[intOf];omega
  refine⟨k+1,ow,vo,?_,hB⟩;intro j hj;by_cases hjk:j=k
  .rw[hjk,hbad.o]
  exact Hi
 go_wp2_with fail;go_ret;have r:aw ns (λi=>td (zs i))=false:=dj λj hj=>HN.o j ow;exact⟨by simp[iu,c.o.1,c.o.2,t.o,r],a⟩
theorem R1(x:Int)(w:World):
  Calls prog 195 #[.int .i64 x] w λe w'=>e = .returned (.bool (sx x))/\w'=w:=by
 unfold sx;go_enter func195,ntmps195;go_wp2_with(go_at_call 43;refine ap (dm _ _ _ _) ?_)
 all_goals go_ret
 all_goals exact⟨rfl,rfl⟩
theorem R2(B f:Nat)(p:Pl)(r:Rw)(w:World)(l:r.At w)(les:p.ns<=p.cs)(caps:p.cs<=maxLen)
  (c1:w.cell? ⟨B,1,none⟩=some (.slice p.sa p.ns p.cs)) (c2:w.cell? ⟨f,0,none⟩=some (.func (.func 195) #[] #[])) :
  Calls prog 196 #[.slice r.a r.n r.c,.pointer (some ⟨B,0,none⟩),.pointer (some ⟨f,0,none⟩)] w λe w'=>e = .returned (.bool (qy p r))/\Bw w w':=by
 obtain⟨j,b,ints⟩:=l;have d:=b;unfold maxLen at b caps;cases g:((r.n:Int) !=(p.ns:Int))
 .go_enter func196,ntmps196;go_wp2_with fail;refine(aqu 195 #[] (λi=>sx (r.z i)) _ _ _ _ j d r.z ints (enters_of func195 ko rfl) (λi w1 _ _=>by rw[Array.append_empty];exact(R1 _ _).mono λ_ _ h=>⟨h.1,h.2▸Below.refl _ _⟩)).mono ?_;rintro e w1 ⟨rfl,k⟩;go_wp2_with fail;go_ret;exact⟨by simp[qy,g],k⟩
 go_enter func196,ntmps196;go_wp2_with fail;go_ret;exact⟨by simp[qy,g],Below.refl _ _⟩
theorem An(p:Pl)(s:Sh)(w:World)(b:p.At w)(hs:s.At w):
  Calls prog 147 #[p.val,s.val] w λe w'=>e = .returned (.int .i64 (fk p s))/\Bw w w':=by
 obtain⟨u,d,rows⟩:=hs;have f:=d;unfold maxLen at d;have leb:=b.leb;have capb:=b.capb;unfold maxLen at capb;have j:Bw w (w.alloc (.cells #[.slice p.ab p.nb p.cb,.slice p.sa p.ns p.cs] 25)):=(Below.refl w.heap.size w).alloc nlr _;simp only[Pl.val,Sh.val];go_enter func147,ntmps147;go_wp2_with fail;refine(Bj p _ (b.below j)).mono ?_;rintro e w1 ⟨rfl,hB⟩;have hBw:=j.trans (hB.mono vq);have t:w.heap.size<w1.heap.size:=R7;have y:w1.cell? ⟨w.heap.size,0,none⟩=some (.slice p.ab p.nb p.cb):=(hB.cell (p:=⟨w.heap.size,0,none⟩) vq).trans vq;have c1:w1.cell? ⟨w.heap.size,1,none⟩=some (.slice p.sa p.ns p.cs):=(hB.cell (p:=⟨w.heap.size,1,none⟩) vq).trans vq;by_cases h0:iu p=0;rotate_left
 .exact apn
 cases m:((s.n:Int) !=(p.nb:Int));rotate_left
 .go_wp2_with fail;go_ret;exact⟨by simp[fk,h0,m],hBw.alloc ow _⟩
 go_wp2_with fail;have k:=hBw.alloc ow (.cells #[Value.func (Fn.func 195) #[] #[]] 94);have c:=rows.below k;refine(azb 196 #[.pointer (some ⟨w.heap.size,0,none⟩),.pointer (some ⟨w1.heap.size,0,none⟩)] (λi=>qy p (s.r i)) _ _ _ _ u f s.r c (enters_of func196 ko rfl) ?_).mono ?_
 .intro i g hi a;obtain⟨_,_,_,_,_,q⟩:=(c.below a) i hi;have v:g.cell? ⟨w.heap.size,1,none⟩=some (.slice p.sa p.ns p.cs):=(a.cell (p:=⟨w.heap.size,1,none⟩) oq).trans (by simp[World.cell?_alloc_past,t,c1]);have x:g.cell? ⟨w1.heap.size,0,none⟩=some (.func (.func 195) #[] #[]):=(a.cell (p:=⟨w1.heap.size,0,none⟩) vq).trans vq;exact R2 _ _ p (s.r i) g q b.les b.caps v x
 rintro e g ⟨rfl,a⟩;have l:=k.trans (a.mono oq);cases o:aw s.n (λi=>qy p (s.r i))
 .go_wp2_with fail;go_ret;exact⟨by simp[fk,h0,m,o],l⟩
 go_wp2_with fail;go_ret;exact⟨by simp[fk,h0,o],l⟩
theorem O2(p:Pl)(s:Sh)(w:World)(q:p.At w)(hs:s.At w):
  Calls prog 156 #[p.val,s.val] w λe w'=>e = .returned (.int .i64 (fk p s))/\Bw w w':=by
 obtain⟨sa,l,sc,m⟩:=s;obtain⟨X,y,rows⟩:=hs;dsimp only at X y rows;unfold maxLen at y;have leb:=q.leb;have capb:=q.capb;have les:=q.les;have caps:=q.caps;unfold maxLen at capb caps;have r:Bw w (w.alloc (.cells #[.slice p.ab p.nb p.cb,.slice p.sa p.ns p.cs] 25)):=(Below.refl w.heap.size w).alloc nlr _;simp only[Pl.val,Sh.val];go_enter func156,ntmps156;go_wp2_with fail;refine(G4 p _ (q.below r)).mono ?_;rintro e w1 ⟨rfl,hB⟩;have hBw:=r.trans (hB.mono vq);have V:w.heap.size<w1.heap.size:=R7;have c0:w1.cell? ⟨w.heap.size,0,none⟩=some (.slice p.ab p.nb p.cb):=(hB.cell (p:=⟨w.heap.size,0,none⟩) vq).trans vq;have c1:w1.cell? ⟨w.heap.size,1,none⟩=some (.slice p.sa p.ns p.cs):=(hB.cell (p:=⟨w.heap.size,1,none⟩) vq).trans vq;have A:=rows.below hBw;clear hB r rows q;by_cases h0:iu p=0;rotate_left
 .exact apn
 cases H:((l:Int) !=(p.nb:Int));rotate_left
 .go_wp2_with fail;go_ret;exact⟨by simp[fk,h0,H],hBw⟩
 have B:=qa2 h0 H;go_wp2_with fail;clear h0 H
 go_loopw [6] (λi M=>∃k:Nat,k<=l/\i = .int .i64 k/\(∀j,j<k->qy p (m j)=false)/\Bw w1 M) (λi _=>l-(intOf i).toNat)
 case atStart=>exact vu
 obtain⟨k,hk,rfl,c,a⟩:=hrel;have HN:=hid c;have d1:wr.cell? ⟨w.heap.size,1,none⟩=some (.slice p.sa p.ns p.cs):=(a.cell (p:=⟨w.heap.size,1,none⟩) V).trans c1;clear c;by_cases v:k<l;rotate_left
 .go_wp2_with fail;go_ret;have K:aw l (λi=>qy p (m i))=false:=dj λj hj=>HN.o j ow;exact⟨ag2,hBw.trans (a.mono hBw.size)⟩
 obtain⟨b,o,rfl,T,z,S⟩:=A k v;obtain⟨F,f,ints⟩:=S;unfold maxLen at f;obtain⟨R,L⟩:∃R,R=m k:=⟨_,rfl⟩;rw[<-L] at z F f ints;have G:=hid L;obtain⟨ra,x,rc,d⟩:=R;dsimp only at z F f ints;have z1:=(a.cell (p:=⟨b,o+k,none⟩) T).trans z;have Z0:=hid z;clear z L;cases J:((x:Int) !=(p.ns:Int));rotate_left
 .go_wp2_with fail
  go_quiet (fail)
  go_wp2_with fail;go_ret;have K:aw l (λi=>qy p (m i))=true:=ir v (by rw[<-G.o];simp[qy,J]);exact⟨ag2,below_drewN (hBw.trans (a.mono hBw.size)) _⟩
 have H2:=hid J;go_wp2_with fail
 go_quiet (fail)
 go_wp2_with fail;have D:=below_drewN a nq;clear J
 go_loopw [7] (λi M=>∃g:Nat,g<=x/\i = .int .i64 g/\(∀j,j<g->sx (d j)=false)/\Bw w1 M) (λi _=>x-(intOf i).toNat)
 case atStart=>exact⟨0,Qxz _,rfl,λj hj=>absurd hj (Qzq _),D⟩
 clear a D z1 d1;obtain⟨g,hg,rfl,c,a⟩:=hrel;have Q:=hid c;clear c;have z2:=(a.cell (p:=⟨b,o+k,none⟩) T).trans Z0.o;by_cases E:g<x;rotate_left
 .have t:Hid (qy p (m k)=false):=by
   show qy p (m k)=false;rw[<-G.o];simp[qy,H2.o,dj (n:=x) (bad:=λi=>sx (d i)) λj hj=>Q.o j ow]
  go_wp2_with fail;go_roundw
  case measure=>simp[intOf];omega
  refine⟨k+1,ow,vo,?_,a⟩;intro j hj;by_cases u:j=k
  .rw[u,t.o]
  exact Hi
 obtain⟨b',o',rfl,U,Y⟩:=ints g E;have y1:=(a.cell (p:=⟨b',o'+g,none⟩) U).trans Y;clear Y;cases W:inB (d g) 0 200
 .have t:Hid (sx (d g)=true):=by show sx (d g)=true;simp[sx,W]
  go_wp2_with(go_at_call 34;refine ap (da _ _ _ _) ?_);go_ret;have K:aw l (λi=>qy p (m i))=true:=ir v (by rw[<-G.o];simp[qy,ir (bad:=λi=>sx (d i)) E t.o]);exact⟨ag2,hBw.trans (a.mono hBw.size)⟩
 have t:Hid (sx (d g)=false):=by show sx (d g)=false;simp[sx,W]
 go_wp2_with(go_at_call 34;refine ap (da _ _ _ _) ?_);go_roundw
 case measure=>simp[intOf];omega
 refine⟨g+1,ow,vo,?_,a⟩;intro j hj;by_cases u:j=g
 .rw[u,t.o]
 exact Q.o j ow
theorem im(n:Nat)(k:Int)(w:World)(a:n<=maxLen):
  Calls prog 98 #[.int .i64 n,.int .i64 k] w λe w'=>e = .returned (.bool (inB k 0 ((n:Int)-1)))/\w'=w:=by
 unfold maxLen at a;go_enter func98,ntmps98;go_wp2_with(go_at_call 43;refine ap (dm _ _ _ _) ?_);go_ret;exact⟨rfl,rfl⟩
theorem zq(p:Pl)(k:Int)(w:World)(b:p.nb<=p.cb)(a:p.cb<=maxLen):
  Calls prog 78 #[p.val,.int .i64 k] w λe w'=>e = .returned (.bool (inB k 0 ((p.nb:Int)-1)))/\Bw w w':=by
 unfold maxLen at a;simp only[Pl.val];go_enter func78,ntmps78;exact anj
theorem Ae(p:Pl)(k:Int)(w:World)(b:p.ns<=p.cs)(a:p.cs<=maxLen):
  Calls prog 102 #[p.val,.int .i64 k] w λe w'=>e = .returned (.bool (inB k 0 ((p.ns:Int)-1)))/\Bw w w':=by
 unfold maxLen at a;simp only[Pl.val];go_enter func102,ntmps102;exact anj
theorem aer(p:Pl)(s:Sh)(bin:Nat)(w:World)(S:p.At w)(hs:s.At w)(T:yf p s)(c:bin<s.n):
  Calls prog 159 #[p.val,s.val,.int .i64 bin] w λe w'=>e = .returned (.int .i64 (ff (s.r bin).z p.zs p.ns))/\Bw w w':=by
 obtain⟨pl,Q,m,q⟩:=T;have x:=m bin c;have a:Hid (∀j,j<p.ns->(0<=(s.r bin).z j/\(s.r bin).z j<=200)/\1<=p.zs j/\p.zs j<=9):=λj F=>⟨q bin c j F,pl.sizes j F⟩;have H:=pl.ns3;obtain⟨ab,nb,cb,zb,sa,ns,cs,zs⟩:=p;obtain⟨_,_,_,les,caps,sizes⟩:=S;obtain⟨s0,sn,sc,W⟩:=s;obtain⟨J,v,rows⟩:=hs;dsimp only at x a les caps sizes J v rows c H;obtain⟨b,o,rfl,L,B,E⟩:=rows bin c;obtain⟨y,d,ints⟩:=E
 generalize hR:W bin=R at B y d ints x a
 obtain⟨ra,l,rc,t⟩:=R;dsimp only at B y d ints x a;subst x;have K:=hid hR;clear hR m q pl Q rows;unfold maxLen at v d caps;simp only[Pl.val,Sh.val];go_enter func159,ntmps159;go_wp2_with fail
 go_loopw [7,8] (λu i X=>∃k:Nat,k<=l/\i = .int .i64 k/\u = .int .i64 (ff t zs k)/\Below (w.heap.size+1) (w.alloc (.cells #[.slice ab nb cb,.slice sa l cs] 25)) X) (λ_ i _=>l-(intOf i).toNat)
 case atStart=>exact N6
 obtain⟨k,M,rfl,rfl,A⟩:=hrel;have f:Bw w wr:=((Below.refl w.heap.size w).alloc nlr _).trans (A.mono ow);have c1:wr.cell? ⟨w.heap.size,1,none⟩=some (.slice sa l cs):=(A.cell (p:=⟨w.heap.size,1,none⟩) vq).trans vq;have z1:=(f.cell (p:=⟨b,o+bin,none⟩) L).trans B;by_cases g:k<l
 .obtain⟨b1,o1,rfl,Y,y0⟩:=(ints.below f) k g;obtain⟨b2,o2,rfl,aa,x0⟩:=(sizes.below f) k g;have V:=zy a.o k M;have m2:=Gv (a.o k g).1 (a.o k g).2;have D:Hid (ff t zs (k+1)=ff t zs k+t k*zs k):=rfl;have m3:(0:Int)<=(bin:Int):=ow
  generalize ff t zs k=U at V D ⊢
  go_wp2_with fail
  go_quiet (fail)
  go_wp2_with fail;go_roundw
  case rel=>exact⟨k+1,ow,vo,by rw[D.o],below_drewN A _⟩
  case measure=>simp[intOf];omega
 go_wp2_with fail;go_ret;have G:k=l:=ow;subst G;exact⟨by rw[K.o];rfl,f⟩
theorem ahs(p:Pl)(s:Sh)(good:Nat)(w:World)(hs:s.At w)(H:yf p s)(q:good<p.ns):
  Calls prog 214 #[s.val,.int .i64 good] w λe w'=>e = .returned (.int .i64 (cq (λi=>(s.r i).z good) s.n))/\Bw w w':=by
 obtain⟨pl,E,d,g⟩:=H;have c:Hid (∀j,j<s.n->0<=(s.r j).z good/\(s.r j).z good<=200):=λj t=>g j t good q;have D:Hid (∀j,j<s.n->good<(s.r j).n):=λj t=>by rw[d j t];exact q
 have v:=pl.nb6;rw[<-E] at v;clear E d g pl q;obtain⟨s0,m,X,a⟩:=s;obtain⟨F,l,rows⟩:=hs;dsimp only at c D F l rows v;unfold maxLen at l;simp only[Sh.val];go_enter func214,ntmps214;go_wp2_with fail
 go_loopw [5,6] (λu i K=>∃k:Nat,k<=m/\i = .int .i64 k/\u = .int .i64 (cq (λi=>(a i).z good) k)/\Bw w K) (λ_ i _=>m-(intOf i).toNat)
 case atStart=>exact N6
 obtain⟨k,G,rfl,rfl,hB⟩:=hrel;by_cases f:k<m
 .obtain⟨b,o,rfl,S,L,y⟩:=(rows.below hB) k f;obtain⟨Q,rcap,ints⟩:=y;have A:=D.o k f;obtain⟨b1,W,x,M,Y⟩:=ints good A;rw[x] at L;clear x;have J:=G5 (z:=λi=>(a i).z good) c.o k G;have T:=c.o k f;have HS:Hid (cq (λi=>(a i).z good) (k+1)=cq (λi=>(a i).z good) k+(a k).z good):=rfl;have V:(0:Int)<=(good:Int):=ow
  generalize cq (λi=>(a i).z good) k=U at J HS ⊢
  exact amm
 go_wp2_with fail;go_ret;have B:k=m:=ow;subst B;exact⟨rfl,hB⟩
theorem aqr(p:Pl)(s:Sh)(bin:Int)(w:World)(F:p.At w)(hs:s.At w):
  Calls prog 172 #[p.val,s.val,.int .i64 bin] w λe w'=>e = .returned (.tuple #[.int .i64 (L7 p s bin),.int .i64 (yb p s bin)])/\Bw w w':=by
 have f:Bw w (w.alloc (.cells #[.slice p.ab p.nb p.cb,.slice p.sa p.ns p.cs] 25)):=(Below.refl w.heap.size w).alloc nlr _;simp only[Pl.val,Sh.val];have S:=hs.le;have l:=hs.cap;have G:=l;unfold maxLen at G;have A:s.n<=maxLen:=Qzx S l;go_enter func172,ntmps172;go_wp2_with fail;refine(An p s _ (F.below f) (hs.below f)).mono ?_;rintro e w1 ⟨rfl,hB⟩;have a:=f.trans (hB.mono vq);have ag:w.heap.size<w1.heap.size:=R7;have c1:w1.cell? ⟨w.heap.size,1,none⟩=some (.slice p.sa p.ns p.cs):=(hB.cell (p:=⟨w.heap.size,1,none⟩) vq).trans vq;by_cases q:fk p s=0;rotate_left
 .go_wp2_with fail
  go_ret2
  exact⟨by simp[L7,yb,q],a⟩
 cases h1:inB bin 0 ((s.n:Int)-1)
 .go_wp2_with(go_at_call 98;refine ap (im _ _ _ A) ?_)
  go_ret2
  exact⟨by simp[L7,yb,q,h1],a⟩
 have H0:=hid q;have H1:=hid h1;obtain⟨m,rfl⟩:=Qzz (ar h1).1;have E:m<s.n:=Nw;have H:Hid (L7 p s (m:Int)=ff (s.r m).z p.zs p.ns/\yb p s (m:Int)=0):=by
  show _/\_;simp[L7,yb,q,h1]
 obtain⟨pl,X,t,v⟩:=(yg q).2;have D:=t m E;have c:Hid (∀j,j<p.ns->(0<=(s.r m).z j/\(s.r m).z j<=200)/\1<=p.zs j/\p.zs j<=9):=λj K=>⟨v m E j K,pl.sizes j K⟩;have af:=pl.ns3;have M:=F.below a;have Q:=hs.below a;clear F hs hB f t v pl X;obtain⟨ab,nb,cb,zb,sa,ns,cs,zs⟩:=p;obtain⟨_,_,_,les,caps,sizes⟩:=M;obtain⟨s0,sn,sc,sr⟩:=s;obtain⟨_,_,rows⟩:=Q;dsimp only at *;obtain⟨b,o,rfl,hb,T,J⟩:=rows m E;obtain⟨B,d,ints⟩:=J
 generalize hR:sr m=R at T B d ints D c
 obtain⟨ra,y,rc,x⟩:=R;dsimp only at T B d ints D c;subst D;have V:=hid hR;clear hR rows;unfold maxLen at d caps;have m3:(0:Int)<=(m:Int):=ow;go_wp2_with(go_at_call 98;refine ap (im _ _ _ A) ?_);clear q h1
 go_loopw [9,28] (λu i wk=>∃k:Nat,k<=y/\i = .int .i64 k/\u = .int .i64 (ff x zs k)/\Bw w1 wk) (λ_ i _=>y-(intOf i).toNat)
 case atStart=>exact N6
 obtain⟨k,W,rfl,rfl,hB⟩:=hrel;obtain⟨hc,hf⟩:=ar5 hB;by_cases g:k<y
 .obtain⟨b1,o1,rfl,ad,y0⟩:=(ints.below hB) k g;obtain⟨b2,o2,rfl,ae,x0⟩:=(sizes.below hB) k g;have Y:=zy c.o k W;have m2:=Gv (c.o k g).1 (c.o k g).2;have HS:Hid (ff x zs (k+1)=ff x zs k+x k*zs k):=rfl
  generalize ff x zs k=U at Y HS ⊢
  exact amy
 go_wp2_with fail
 go_ret2
 have L:k=y:=ow;subst L;exact⟨by rw[H.o.1,H.o.2,V.o];rfl,a.trans (hB.mono a.size)⟩
theorem avs(p:Pl)(s:Sh)(good:Int)(w:World)(v:p.At w)(hs:s.At w):
  Calls prog 208 #[p.val,s.val,.int .i64 good] w λe w'=>e = .returned (.tuple #[.int .i64 (Qe p s good),.int .i64 (Lt p s good)])/\Bw w w':=by
 have c:Bw w (w.alloc (.cells #[.slice p.ab p.nb p.cb,.slice p.sa p.ns p.cs] 25)):=(Below.refl w.heap.size w).alloc nlr _;simp only[Pl.val,Sh.val];have aa:=hs.le;have D:=hs.cap;unfold maxLen at D;have les:=v.les;have t:=v.caps;have A:p.ns<=maxLen:=Qzx les t;go_enter func208,ntmps208;go_wp2_with fail;refine(An p s _ (v.below c) (hs.below c)).mono ?_;rintro e w1 ⟨rfl,hB⟩;have a:=c.trans (hB.mono vq);have c1:w1.cell? ⟨w.heap.size,1,none⟩=some (.slice p.sa p.ns p.cs):=(hB.cell (p:=⟨w.heap.size,1,none⟩) vq).trans vq;by_cases f:fk p s=0;rotate_left
 .go_wp2_with fail
  go_ret2
  exact⟨by simp[Qe,Lt,f],a⟩
 cases h1:inB good 0 ((p.ns:Int)-1)
 .go_wp2_with(go_at_call 98;refine ap (im _ _ _ A) ?_)
  go_ret2
  exact⟨by simp[Qe,Lt,f,h1],a⟩
 obtain⟨m,rfl⟩:=Qzz (ar h1).1;have K:m<p.ns:=Nw;have E:Hid (Qe p s (m:Int)=cq (λi=>(s.r i).z m) s.n/\Lt p s (m:Int)=0):=by
  show _/\_;simp[Qe,Lt,f,h1]
 obtain⟨pl,L,g,q⟩:=(yg f).2;have S:Hid (∀j,j<s.n->m<(s.r j).n):=λj B=>by rw[g j B];exact K
 have y:Hid (∀j,j<s.n->0<=(s.r j).z m/\(s.r j).z m<=200):=λj B=>q j B m K;have M:=pl.nb6;rw[<-L] at M;have rows:=(hs.below a).rows;clear v hs hB c g q pl L;have m3:(0:Int)<=(m:Int):=ow;go_wp2_with(go_at_call 98;refine ap (im _ _ _ A) ?_);clear f h1 c1;obtain⟨s0,x,sc,d⟩:=s;dsimp only at *
 go_loopw [9,26] (λu i V=>∃k:Nat,k<=x/\i = .int .i64 k/\u = .int .i64 (cq (λi=>(d i).z m) k)/\Bw w1 V) (λ_ i _=>x-(intOf i).toNat)
 case atStart=>exact N6
 obtain⟨k,Q,rfl,rfl,hB⟩:=hrel;by_cases l:k<x
 .obtain⟨b,o,rfl,hb,W,G⟩:=(rows.below hB) k l;obtain⟨Y,rcap,ints⟩:=G;have H:=S.o k l;obtain⟨b1,o1,F,X,y0⟩:=ints m H;rw[F] at W;clear F;have T:=G5 (z:=λi=>(d i).z m) y.o k Q;have m2:=y.o k l;have HS:Hid (cq (λi=>(d i).z m) (k+1)=cq (λi=>(d i).z m) k+(d k).z m):=rfl
  generalize cq (λi=>(d i).z m) k=U at T HS ⊢
  exact amm
 go_wp2_with fail
 go_ret2
 have J:k=x:=ow;subst J;exact⟨by rw[E.o.1,E.o.2];rfl,a.trans (hB.mono a.size)⟩
def Blk(w:World)(g:Nat)(e:TypeId)(n:Nat)(f:Nat->Value):Prop :=
 ∃cur,w.heap[g]?=some (.cells cur e (0,0))/\n<=cur.size/\∀j,j<n->cur[j]?=some (f j)
theorem Blk.lt(h:Blk w g e n f):g<w.heap.size:=by
 obtain⟨cur,hc,_⟩:=h;exact(Qkq hc).1
theorem Blk.cell(h:Blk w g e n f)(b:j<n):w.cell? ⟨g,j,none⟩=some (f j):=by
 obtain⟨cur,hc,_,a⟩:=h;simp[World.cell?,hc,a j b]
theorem Blk.frozen(h:Blk w g e n f)(j:Nat):w.frozen? ⟨g,j,none⟩=false:=by
 obtain⟨cur,hc,_,a⟩:=h;simp[World.frozen?,hc]
theorem Blk.same(h:Blk w g e n f)(hs:w'.heap[g]?=w.heap[g]?):Blk w' g e n f:=by
 obtain⟨cur,hc,a⟩:=h;exact⟨cur,hs.trans hc,a⟩
theorem Blk.below(h:Blk w g e n f)(a:Bw w w'):Blk w' g e n f:=h.same (a.block g h.lt)
theorem Blk.grown{row:Option Nat}(h:Blk w g e n f)(b:w.grownBy w' row)(a:some g≠row):Blk w' g e n f:=h.same (b.block g h.lt a)
theorem Blk.congr{a:Nat->Value}(h:Blk w g e n f)(c:∀j,j<n->f j=a j):Blk w g e n a:=by
 obtain⟨cur,hc,d,i⟩:=h;exact⟨cur,hc,d,λj b=>by rw[i j b,c j b]⟩
theorem Blk.other(h:Blk w g e n f){a:Addr}(b:g≠a.block)(v:Value):Blk (w.setCell a v) g e n f:=h.same (Below.heap_setCell w a v g b)
theorem Blk.set(h:Blk w g e n f)(j:Nat)(v:Value):Blk (w.setCell ⟨g,j,none⟩ v) g e n (λi=>if i=j then v else f i):=by
 obtain⟨cur,hc,b,c⟩:=h;refine⟨cur.setIfInBounds j v,?_,by simpa using b,?_⟩
 .simp[World.setCell,Array.getElem?_modify,hc]
 intro i hi;rw[Array.getElem?_setIfInBounds];by_cases a:i=j
 .subst a;simp;omega
 rw[if_neg (λe=>a e.symm),c i hi];simp[a]
theorem Blk.new(w:World)(cur:Array Value)(e:TypeId):Blk (w.alloc (.cells cur e)) w.heap.size e cur.size (λj=>cur.getD j default):=by
 refine⟨cur,heap_alloc_new w _,Nat.le_refl _,λj a => ?_⟩;simp[Array.getD,a]
theorem Blk.ofOwns{base:Nat}{size:Nat}(h:w.ownsRow base e size v n xs)(m:v ≠ .slice none 0 0):
  ∃g c,v = .slice (some ⟨g,0,none⟩) n c/\n<=c/\c<=maxLen/\base<=g/\Blk w g e (n*size) (λj=>xs.getD j default):=by
 obtain⟨o,h|⟨g,cap,cur,rfl,i,k,a,b,d,f⟩⟩:=h
 .exact absurd h.1 m
 refine⟨g,cap,rfl,a,b,i,cur,k,by rw[d];exact Nat.mul_le_mul_right _ a,λj l => ?_⟩;have:xs[j]?=cur[j]?:=by
  rw[<-f,List.getElem?_take,if_pos l];simp
 rw[<-this,List.getElem?_eq_getElem ow];simp[List.getD,List.getElem?_eq_getElem (show j<xs.length by omega)]
theorem Blk.mk'{cur:Array Value}(b:g=w.heap.size)(a:f=λj=>cur.getD j default):Blk (w.alloc (.cells cur e)) g e cur.size f:=by
 subst b a;exact Blk.new w cur e
theorem Blk.alloc(h:Blk w g e n f)(o:Obj):Blk (w.alloc o) g e n f:=h.below (brf.alloc nlr o)
theorem Blk.ints{z:Nat->Int}(h:Blk w g e n (λj => .int .i64 (z j))):lw w (some ⟨g,0,none⟩) n z:=λi hi =>
 ⟨g,0,rfl,h.lt,akn⟩
theorem Blk.k(h:Blk w g e n f)(j:Nat)(a:j<n:=by decide):w.cell? ⟨g,j,none⟩=some (f j):=h.cell a
theorem z7(h:Blk w g e 7 f):g<w.heap.size/\w.frozen? ⟨g,0,none⟩=false/\w.cell? ⟨g,0,none⟩=some (f 0)/\w.frozen? ⟨g,1,none⟩=false/\w.cell? ⟨g,1,none⟩=some (f 1)/\w.frozen? ⟨g,2,none⟩=false/\w.cell? ⟨g,2,none⟩=some (f 2)/\w.frozen? ⟨g,3,none⟩=false/\w.cell? ⟨g,3,none⟩=some (f 3)/\w.frozen? ⟨g,4,none⟩=false/\w.cell? ⟨g,4,none⟩=some (f 4)/\w.frozen? ⟨g,5,none⟩=false/\w.cell? ⟨g,5,none⟩=some (f 5)/\w.frozen? ⟨g,6,none⟩=false/\w.cell? ⟨g,6,none⟩=some (f 6):=⟨h.lt,h.frozen 0,h.cell (j:=0) dc,h.frozen 1,h.cell (j:=1) dc,h.frozen 2,h.cell (j:=2) dc,h.frozen 3,h.cell (j:=3) dc,h.frozen 4,h.cell (j:=4) dc,h.frozen 5,h.cell (j:=5) dc,h.frozen 6,h.cell (j:=6) dc⟩
structure Hd where
 o:Int
 l:Int
 b:Int
 n:Int
variable{z H:Nat->Hd}{h:Hd}
def Hd.val(x:Hd):Value := .agg #[.int .i64 x.o,.int .i64 x.l,.int .i64 x.b,.int .i64 x.n]
def dt(x:Hd):List Value:=[.int .i64 x.o,.int .i64 x.l,.int .i64 x.b,.int .i64 x.n]
def il(x:Hd):Bool:=inB x.o 0 3&&inB x.l 0 2&&inB x.b 0 5&&inB x.n 1 200
def bj(x:Hd):Int:=(x.o*3+x.l)*6+x.b
def Gd(a b:Int):Int:=if a<b then -1 else if b<a then 1 else 0
def orI(a b c:Int):Int:=if a=0 then(if b=0 then c else b) else a
def oa(x y:Hd):Int:=orI (Gd x.o y.o) (Gd x.l y.l) (Gd x.b y.b)
theorem cw{x:Hd}(h:il x=true):(0<=x.o/\x.o<=3)/\(0<=x.l/\x.l<=2)/\(0<=x.b/\x.b<=5)/\1<=x.n/\x.n<=200:=by
 simp only[il,Xxx] at h;exact⟨ar h.1.1.1,ar h.1.1.2,ar h.1.2,ar h.2⟩
theorem C5{x y:Hd}(hx:il x=true)(c:il y=true):(0<=oa x y↔bj y<=bj x)/\(oa x y=0↔bj x=bj y):=by
 have a:=cw hx;have b:=cw c;unfold oa orI Gd bj;constructor
 all_goals(repeat' split)<;>omega
theorem Ye{x y:Hd}:oa x y=0↔x.o=y.o/\x.l=y.l/\x.b=y.b:=by
 unfold oa orI Gd
 (repeat' split)<;>omega
theorem T4{x y:Hd}:oa x y<0↔x.o<y.o\/(x.o=y.o/\(x.l<y.l\/(x.l=y.l/\x.b<y.b))):=by
 unfold oa orI Gd
 (repeat' split)<;>omega
theorem U6{x y z:Hd}(a:oa x y<0)(b:oa y z<0):oa x z<0:=by
 rw[T4] at *;omega
def df(z:Nat->Hd)(i:Nat):Bool := !il (z i)||(decide (0<i)&&decide (0<=oa (z (i-1)) (z i)))
def Av(z:Nat->Hd)(i:Nat):Bool := !il (z i)||(decide (0<i)&&decide (bj (z i)<=bj (z (i-1))))
theorem X6(z:Nat->Hd):∀n,aw n (Av z)=aw n (df z)
 | 0=>rfl
 | n+1=>by
  rw[Hq,Hq,X6 z n];cases h:aw n (df z);rotate_left
  .simp
  simp only[Bool.false_or];unfold Av df;cases c:il (z n)
  .simp
  by_cases b:0<n
  .have d:=dv h (n-1) ow;have a:il (z (n-1))=true:=by
    cases e:il (z (n-1))
    .simp[df,e] at d
    rfl
   have:=(C5 a c).1;simp only[b,decide_true,Bool.true_and,Bool.not_true,Bool.false_or];rw[Bool.eq_iff_iff];simp only[decide_eq_true_eq];exact this.symm
  simp[b]
def ip(n:Nat)(z:Nat->Hd):Int:=if aw n (df z) then 1 else 0
theorem cd(h:aw n (df z)=false):∀i,i<n->il (z i)=true:=by
 intro i hi;have:=dv h i hi;cases a:il (z i)
 .simp[df,a] at this
 rfl
theorem Cu(h:aw n (df z)=false):∀i,i+1<n->bj (z i)<bj (z (i+1)):=by
 intro i hi;have b:=dv h (i+1) hi;have c:=cd h i ow;have a:=cd h (i+1) hi;have:=(C5 c a).1;simp only[df,a,Bool.not_true,Bool.false_or,Nat.succ_pos,decide_true,Bool.true_and,Nat.add_sub_cancel,decide_eq_false_iff_not] at b;rw[this] at b;omega
theorem re(h:aw n (df z)=false):∀i j,i<j->j<n->bj (z i)<bj (z j):=by
 intro i j c b
 induction j with
 | zero=>omega
 | succ j ih =>
  have s:=Cu h j b;by_cases a:i=j
  .subst a;exact s
  have:=ih ow ow;omega
theorem ajt(h:aw n (df z)=false):∀i,i<n->(i:Int)<=bj (z i)/\bj (z i)<=71:=by
 intro i hi;have f:=cw (cd h i hi);constructor
 .induction i with
  | zero=>unfold bj;omega
  | succ i ih =>
   have:=Cu h i hi;have:=ih ow (cw (cd h i ow));omega
 unfold bj;omega
theorem zv(h:aw n (df z)=false):n<=72:=by
 by_cases a:n=0
 .omega
 have:=ajt h (n-1) ow;omega
def jx(w:World)(a:Option Addr)(n:Nat)(z:Nat->Hd):Prop :=
 ∀i,i<n->∃b o,a=some ⟨b,o,none⟩/\b<w.heap.size/\w.cell? ⟨b,o+i*4,none⟩=some (.int .i64 (z i).o) /\
  w.cell? ⟨b,o+i*4+1,none⟩=some (.int .i64 (z i).l)/\w.cell? ⟨b,o+i*4+2,none⟩=some (.int .i64 (z i).b) /\
  w.cell? ⟨b,o+i*4+3,none⟩=some (.int .i64 (z i).n)
theorem jx.below{a:Option Addr}(h:jx w a n z)(hB:Bw w w'):jx w' a n z:=aus
structure Hs where
 a:Option Addr
 n:Nat
 c:Nat
 z:Nat->Hd
variable{V Y:Hs}
def Hs.val(s:Hs):Value := .slice s.a s.n s.c
structure Hs.At(w:World)(s:Hs):Prop where
 le:s.n<=s.c
 cap:s.c<=maxLen
 hds:jx w s.a s.n s.z
 nilc:s.a=none->s.c=0
theorem Hs.At.below{s:Hs}(h:s.At w)(a:Bw w w'):s.At w':=⟨h.le,h.cap,h.hds.below a,h.nilc⟩
def Uf(ops:Array Oper):List (Bool × Nat)->Array Bool->Bool
 | [],listed=>Region.ready .any ops listed==[]
 | (h,i) :: r,listed=>(if h then(Region.ready .any ops listed).contains i&&Region.free .any ops listed i else Region.ready .any ops listed==[i])&&Uf ops r (listed.setIfInBounds i true)
theorem Oper.wp_then{P:Program}{o:Oper}{a:Act}{K N:Act->World->Prop}(h:o.wp P a w K (Exit.then N Q)):o.wp P a w K Q:=by
 unfold Oper.wp at *
 generalize (execOp a.eval o).run P w=r at *
 cases r with
 | ok n w' =>
  cases n<;>simp only[Oper.upon] at h ⊢ <;>
   first
    | exact h
    | exact Calls.mono h (λe c b=>by cases e<;>exact b)
    | exact Rows.mono h (λ_ _ b=>b)
 | halt x w'=>cases x<;>simp only[Oper.upon] at h ⊢<;>exact h
def Et(P:Program)(ops:Array Oper)(Q:Exit->Act->World->Prop)(S:World->Prop):List (Bool × Nat)->Act->World->Prop
 | [],a,w=>Q .normal a w
 | (false,i) :: r,a,w=>wpOp P ops Q i (λa' w'=>S w'/\Et P ops Q S r a' w') a w
 | (true,i) :: r,a,w=>∃o v,ops[i]?=some o/\YieldsIf P ops S o v a/\Et P ops Q S r (a.put o.dst v) w
theorem Ey{P:Program}{d:Array Oper}{Q:Exit->Act->World->Prop}{S:World->Prop}(hs:Region.noSelect d=true)
  (k:∀c a f w,Q (.panic c) a w->Q (.panic c) f w):∀(e:List (Bool × Nat)) (b:Array Bool) (a:Act) (w:World),
   Uf d e b=true->S w->Et P d Q S e a w->wpAnyH P .any d Q S e.length b a w
 | [],b,a,w,hB,_,h=>wpAnyH_done (by simpa[Uf] using hB) h _
 | (false,i) :: r,b,a,w,hB,hS,h=>by
  simp only[Uf,Bool.false_eq_true,if_false,Xxx,beq_iff_eq] at hB;refine wpAnyH_all hB.1 vq λj l => ?_;rw[List.mem_singleton] at l;subst l;exact wpOp_mono (λf w' g=>⟨g.1,Ey hs k r _ f w' hB.2 g.1 g.2⟩) h
 | (true,i) :: r,b,a,w,hB,hS,h=>by
  simp only[Uf,if_true,Xxx] at hB;obtain⟨o,v,n,q,m⟩:=h;exact wpAnyH_take n hs hB.1.2 hB.1.1 (λc a w p=>k _ _ _ _ p) q hS (Ey hs k r _ _ w hB.2 hS m)
theorem sj{P:Program}{b:Array Oper}{a:Act}(S:World->Prop)(d:List (Bool × Nat))
  (i:P.follows .mixedOrders=true) (hs:Region.noSelect b=true) (e:Uf b d (Array.replicate b.size false)=true) (g:d.length=b.size)
  (f:S w.drew) (h:Et P b (NoPanic Q) S d a w.drew):(Code.region n b true).wp P Q a w:=by
 refine wp_region_noPanic (wp_region_held (S:=S) i ?_);have:=Ey (Q:=NoPanic Q) hs (λc a j w h=>(h:False).elim) d (Array.replicate b.size false) a w.drew e f h;rw[g] at this;exact this
theorem fj{P:Program}{l:List Oper}{r:List (Bool × Nat)}(k:Nat){a:Act}(b:k<l.length)
  (h:wpList P l.toArray (Exit.then (λa' w'=>S w'/\Et P l.toArray Q S r a' w') Q) ((l.drop k).take 1) a w):Et P l.toArray Q S ((false,k) :: r) a w:=by
 have c:l.toArray[k]?=some l[k]:=by simp[b]
 have h1:(l.drop k).take 1=[l[k]]:=by
  rw[List.drop_eq_getElem_cons b]
  rfl
 rw[h1] at h;show wpOp P l.toArray Q k _ a w;unfold wpOp;simp only[c];exact au8
def Ti(o:Oper):Bool:=match o.op with
 | .move _=>true
 | .assign _=>true
 | .slice ..=>true
 | .load ..=>true
 | .fieldAddr ..=>true
 | .indexAddr ..=>true
 | .binOp ..=>true
 | .nilCheck _=>true
 | _=>false
theorem ap1{P:Program}{s:Sem Value}{n:Next}(h:(do let x <-s;pure (Next.value x):Sem Next).run P w = .ok n w'):∃v,n = .value v:=by
 simp only[Sem.run_bind,Sem.run_pure] at h;cases a:s.run P w with
 | ok u w2 =>
  rw[a] at h;simp only[Result.andThen] at h;cases h;exact⟨_,rfl⟩
 | halt y w2 =>
  rw[a] at h;simp only[Result.andThen] at h;cases h
theorem Pu{P:Program}{o:Oper}{ρ:Operand->Value}{n:Next}(e:Ti o=true)(h:(execOp ρ o).run P w = .ok n w'):∃v,n = .value v:=by
 unfold Ti at e;unfold execOp at h
 split at e
 .exact ao2
 .exact ao2
 all_goals first
  | (cases e;done)
  | (rename_i hx;rw[hx] at h;exact ap1 h)
  | skip
 rename_i x hx;rw[hx] at h;simp only[] at h
 split at h
 .cases h
 .cases h
 .cases h
 rotate_left
 .cases h;exact⟨_,rfl⟩
 rename_i c first d _
 split at h
 .cases h
 rotate_left
 .cases h;exact⟨_,rfl⟩
 rename_i t u _;simp only[Sem.run_bind] at h;cases f:(nilAhead (P.types.size+Made.depth) t u c).run P w with
 | ok b w2 =>
  change Result.andThen ((nilAhead (P.types.size+Made.depth) t u c).run P w) (λa w'=>_)=_ at h;rw[f] at h;simp only[Result.andThen] at h
  split at h
  .cases h
  cases h;exact⟨_,rfl⟩
 | halt y w2 =>
  change Result.andThen ((nilAhead (P.types.size+Made.depth) t u c).run P w) (λa w'=>_)=_ at h;rw[f] at h;cases h
theorem au{P:Program}{l:List Oper}{r:List (Bool × Nat)}(k:Nat){o:Oper}{a:Act}(hk:l[k]?=some o)(i:Ti o=true)
  (h:wpQuiet P l.toArray S (λd=>Et P l.toArray Q S r d w) [o] a):Et P l.toArray Q S ((true,k) :: r) a w:=by
 unfold wpQuiet at h
 split at h
 .rename_i c;obtain⟨v,e,f⟩:=h;refine⟨o,v,Ha,.inl ⟨c,λw' g => ?_⟩,f⟩;have:=e w' g;unfold Oper.quietAt at this;cases b:(execOp a.eval o).run P w' with
  | ok n w2 =>
   rw[b] at this;obtain⟨u,rfl⟩:=Pu i b;simp only[Oper.quietUpon] at this;rw[this.1,this.2]
  | halt x w2=>rw[b] at this;exact this.elim
 rename_i c;refine⟨o,undef,Ha,.inr ⟨by simpa using c,rfl⟩,h⟩
open Go.Sort
theorem avr(n k:Int)(w:World)(a:0<=n/\n<=1000):
  Calls prog 98 #[.int .i64 n,.int .i64 k] w λe w'=>e = .returned (.bool (inB k 0 (n-1)))/\w'=w:=by
 obtain⟨m,rfl⟩:=Qzz a.1;exact im m k w uo
theorem Al(x:Hd)(w:World):
  Calls prog 222 #[x.val] w λe w'=>e = .returned (.bool (il x))/\Bw w w':=by
 unfold il Hd.val;go_enter func222,ntmps222;go_wp2_with(first|(go_at_call 98;refine ap (avr _ _ _ ow) ?_)|(go_at_call 43;refine ap (dm _ _ _ _) ?_))
 all_goals go_ret
 all_goals exact⟨by simp[*],brf.alloc nlr _⟩
theorem Cl(x:Hd)(w:World):
  Calls prog 230 #[x.val] w λe w'=>e = .returned (.bool (il x))/\Bw w w':=by
 unfold il Hd.val;go_enter func230,ntmps230;go_wp2_with(go_at_call 34;refine ap (da _ _ _ _) ?_)
 all_goals go_ret
 all_goals exact⟨by simp[*],brf.alloc nlr _⟩
theorem V5(x:Hd)(w:World)(h:il x=true):
  Calls prog 162 #[x.val] w λe w'=>e = .returned (.int .i64 (bj x))/\Bw w w':=by
 have a:=cw h;exact anp
theorem Ik(x y:Int)(w:World):
  Calls prog 225 #[.int .i64 x,.int .i64 y] w λe w'=>e = .returned (.int .i64 (Gd x y))/\w'=w:=by
 unfold Gd;by_cases a:x<y
 .exact ab1
 by_cases b:y<x
 .exact ab1
 exact ab1
theorem aw4(g:Nat)(a b c:Int)(w:World)(h:Blk w g 3 3 (λj=>(#[.int .i64 a,.int .i64 b,.int .i64 c]:Array Value).getD j default)):
  Calls prog 224 #[.slice (some ⟨g,0,none⟩) 3 3] w λe w'=>e = .returned (.int .i64 (orI a b c))/\w'=w:=by
 have t:w.cell? ⟨g,0,none⟩=some (.int .i64 a):=h.k 0;have c1:w.cell? ⟨g,1,none⟩=some (.int .i64 b):=h.k 1;have c2:w.cell? ⟨g,2,none⟩=some (.int .i64 c):=h.k 2;clear h;unfold orI;go_enter func224,ntmps224
 go_wp2
 go_loop [8] (λi=>∃k:Nat,k<=3/\i = .int .i64 k/\(1<=k->a=0)/\(2<=k->b=0)/\(3<=k->c=0)) (λi=>3-(intOf i).toNat)
 case atStart=>exact⟨0,ow,rfl,λh=>ow,λh=>ow,λh=>ow⟩
 obtain⟨k,u,rfl,p,q,hc⟩:=hrel;have f:Hid _:=And.intro p (And.intro q hc);clear p q hc;have r:k=0\/k=1\/k=2\/k=3:=ow;rcases r with rfl|rfl|rfl|rfl
 .cases h0:(a !=0)
  .have d:a=0:=qh;have l:=hid d;clear d
   go_wp2
   go_round
   case rel=>exact⟨1,ow,vo,λ_=>l.o,λh=>ow,λh=>ow⟩
   case measure=>simp[intOf]
  have d:¬a=0:=qh;exact ach
 .have o:=f.o.1 ow;have m:=hid o;clear o;cases h0:(b !=0)
  .have d:b=0:=qh;have l:=hid d;clear d
   go_wp2
   go_round
   case rel=>exact⟨2,ow,vo,λ_=>m.o,λ_=>l.o,λh=>ow⟩
   case measure=>simp[intOf]
  have d:¬b=0:=qh;exact ach
 .have m:Hid (a=0):=f.o.1 ow;have n:Hid (b=0):=f.o.2.1 ow;cases h0:(c !=0)
  .have d:c=0:=qh;have l:=hid d;clear d
   go_wp2
   go_round
   case rel=>exact⟨3,ow,vo,λ_=>m.o,λ_=>n.o,λ_=>l.o⟩
   case measure=>simp[intOf]
  exact ach
 have m:Hid (a=0):=f.o.1 ow;have n:Hid (b=0):=f.o.2.1 ow;have s:Hid (c=0):=f.o.2.2 ow
 go_wp2
 go_ret;exact⟨by simp[s.o],rfl⟩
theorem yi(x y:Hd)(w:World):
  Calls prog 187 #[x.val,y.val] w λe w'=>e = .returned (.int .i64 (oa x y))/\Bw w w':=by
 unfold oa Hd.val;have F:∃W,(w.alloc (.cells #[.int .i64 x.o,.int .i64 x.l,.int .i64 x.b,.int .i64 x.n] 107)).alloc (.cells #[.int .i64 y.o,.int .i64 y.l,.int .i64 y.b,.int .i64 y.n] 107)=W/\Bw w W /\
   (W.cell? ⟨w.heap.size,0,none⟩=some (.int .i64 x.o)/\W.cell? ⟨w.heap.size,1,none⟩=some (.int .i64 x.l)/\W.cell? ⟨w.heap.size,2,none⟩=some (.int .i64 x.b)) /\
   (W.cell? ⟨w.heap.size+1,0,none⟩=some (.int .i64 y.o)/\W.cell? ⟨w.heap.size+1,1,none⟩=some (.int .i64 y.l)/\W.cell? ⟨w.heap.size+1,2,none⟩=some (.int .i64 y.b)):=by
  refine⟨_,rfl,(brf.alloc nlr _).alloc vq _,?_,?_⟩
  .exact⟨vq,vq,vq⟩
  exact⟨vq,vq,vq⟩
 obtain⟨W,g,c,⟨q,r,s⟩,t,u,v⟩:=F;have f:Hid _:=g;clear g;go_enter func187,ntmps187;go_wp2_with fail;rw[f.o];clear f;have e0:=Qqq q;have z:=Qqq r;have D:=Qqq s;have E:=Qqq t;have G:=Qqq u;have H:=Qqq v;refine sj (λw'=>∃p:Regrown,w'=grow (redrawn W p.d) p.os)
  ([0,1,2,3,5,6,7,8,10,11,12,13].map (λk=>(true,k))++[(false,4),(false,9),(false,14),(false,15),(false,16),(false,17)]) ko ko ko ko (Qqx (brf.drew)) ?_
 refine au 0 rfl rfl ?_
 go_big_quiet_step(fail)
 refine Qqz ?_;refine au 1 rfl rfl ?_
 go_big_quiet_step(fail)
 refine Qqz ?_;refine au 2 rfl rfl ?_
 go_big_quiet_step(fail)
 refine Qqz ?_;refine au 3 rfl rfl ?_
 go_big_quiet_step(fail)
 refine Qqz ?_;refine au 5 rfl rfl ?_
 go_big_quiet_step(fail)
 refine Qqz ?_;refine au 6 rfl rfl ?_
 go_big_quiet_step(fail)
 refine Qqz ?_;refine au 7 rfl rfl ?_
 go_big_quiet_step(fail)
 refine Qqz ?_;refine au 8 rfl rfl ?_
 go_big_quiet_step(fail)
 refine Qqz ?_;refine au 10 rfl rfl ?_
 go_big_quiet_step(fail)
 refine Qqz ?_;refine au 11 rfl rfl ?_
 go_big_quiet_step(fail)
 refine Qqz ?_;refine au 12 rfl rfl ?_
 go_big_quiet_step(fail)
 refine Qqz ?_;refine au 13 rfl rfl ?_
 go_big_quiet_step(fail)
 refine Qqz ?_;refine fj 4 dc ?_;simp only[Qyq,Xqq,Qyx,Qyz];go_wp2_with(go_at_call 225;refine ap (Ik _ _ _) ?_);refine⟨Qqx (brf.drew),?_⟩;refine fj 9 dc ?_;simp only[Qyq,Xqq,Qyx,Qyz];go_wp2_with(go_at_call 225;refine ap (Ik _ _ _) ?_);refine⟨Qqx (brf.drew),?_⟩;refine fj 14 dc ?_;simp only[Qyq,Xqq,Qyx,Qyz];go_wp2_with(go_at_call 225;refine ap (Ik _ _ _) ?_);refine⟨Qqx (brf.drew),?_⟩
 generalize hA:Gd x.o y.o=A
 generalize hBB:Gd x.l y.l=B
 generalize hC:Gd x.b y.b=C
 have i:=hid hA;have j:=hid hBB;have m:=hid hC;clear hA hBB hC;refine fj 15 dc ?_;simp only[Qyq,Xqq,Qyx,Qyz];go_wp2_with fail;have a:Bw W (W.alloc (.cells #[.int .i64 A,.int .i64 B,.int .i64 C] 3)).drew:=(brf.alloc nlr _).drew;refine⟨Qqx a,?_⟩;refine fj 16 dc ?_;simp only[Qyq,Xqq,Qyx,Qyz];go_wp2_with fail;refine ap (aw4 W.heap.size A B C _ (Blk.below (Blk.mk' rfl rfl) (brf.drew))) ?_;go_wp2_with fail;refine⟨Qqx a,?_⟩;refine fj 17 dc ?_;simp only[Qyq,Xqq,Qyx,Qyz];go_wp2_with fail;refine⟨Qqx a,?_⟩;refine NoPanic.normal ?_;go_wp2_with fail;go_ret;exact⟨by rw[i.o,j.o,m.o];rfl,c.trans (a.mono c.size)⟩
theorem jd{x:Hd}(a:w.cell? ⟨b,q,none⟩=some (.int .i64 x.o))(c:w.cell? ⟨b,q+1,none⟩=some (.int .i64 x.l))(e:w.cell? ⟨b,q+2,none⟩=some (.int .i64 x.b))(f:w.cell? ⟨b,q+3,none⟩=some (.int .i64 x.n)):
  (∀d os,(grow (redrawn w d) os).cell? ⟨b,q,none⟩=some (.int .i64 x.o))/\(∀d os,(grow (redrawn w d) os).cell? ⟨b,q+1,none⟩=some (.int .i64 x.l)) /\
  (∀d os,(grow (redrawn w d) os).cell? ⟨b,q+2,none⟩=some (.int .i64 x.b))/\(∀d os,(grow (redrawn w d) os).cell? ⟨b,q+3,none⟩=some (.int .i64 x.n)):=
 ⟨λd os=>Qqq a d os,λd os=>Qqq c d os,λd os=>Qqq e d os,λd os=>Qqq f d os⟩
theorem Re(B:Nat)(a:Option Addr)(n c:Nat)(z:Nat->Hd)(i:Nat)(w:World)(hi:i<n)(Q:n<=c)(hc:c<=maxLen)(j:jx w a n z)(p:w.cell? ⟨B,0,none⟩=some (.slice a n c)):
  Calls prog 223 #[.int .i64 i,.pointer (some ⟨B,0,none⟩)] w λe w'=>e = .returned (.bool (df z i))/\Bw w w':=by
 obtain⟨b,o,rfl,M,q,r,s,t⟩:=j i hi;obtain⟨F,G,H,J⟩:=jd q r s t;have rB:=Qqq p;have S:(0:Int)<=(i:Int):=ow;have T:(i:Int)<(n:Int):=ow;unfold maxLen at hc;by_cases l:i=0
 .subst l;simp only[Nat.zero_mul,Nat.add_zero] at F G H J;clear q r s t j p;cases g:il (z 0)
  .exact aul
  exact aul
 obtain⟨k,rfl⟩:∃k,i=k+1:=⟨i-1,ow⟩;obtain⟨L,X,v,K,x,y,A,D⟩:=j k ow;simp only[co] at v;obtain⟨rfl,rfl⟩:=v;obtain⟨Y,p1,p2,p3⟩:=jd x y A D;have U:(0:Int)<=(k:Int):=ow;have V:(k:Int)<(n:Int):=ow;have W:(0:Int)<(k:Int)+1:=ow;clear q r s t x y A D j p l;cases g:il (z (k+1))
 .go_enter func223,ntmps223;go_wp2_with fail;refine Qxq ko ko ?_
  repeat(go_big_quiet_step(first|(go_at_call 222;exact Xxz (Al (z (k+1)) _))|(go_at_call 187;exact Xxz (yi (z k) (z (k+1)) _))))
  exact axx
 cases E:decide (0<=oa (z k) (z (k+1)))
 .exact aub
 exact aub
theorem xh(s:Hs)(w:World)(hs:s.At w):
  Calls prog 185 #[s.val] w λe w'=>e = .returned (.int .i64 (ip s.n s.z))/\Bw w w':=by
 obtain⟨a,n,c,z⟩:=s;obtain⟨r,hc,t⟩:=hs;dsimp only at r hc t ⊢;have o:=hc;unfold maxLen at hc;simp only[Hs.val];go_enter func185,ntmps185;go_wp2_with fail
 go_loopw [8] (λi v=>∃k:Nat,k<=n/\i = .int .i64 k/\(∀j,j<k->df z j=false)/\Below (w.heap.size+1) (w.alloc (.cells #[.slice a n c] 33)) v) (λi _=>n-(intOf i).toNat)
 case atStart=>exact vu
 obtain⟨k,x,rfl,g,hB⟩:=hrel;have HN:=hid g;clear g;have b:Bw w wr:=((Below.refl w.heap.size w).alloc nlr _).trans (hB.mono ow);have hs:w.heap.size+1<=wr.heap.size:=Z9;have u:wr.cell? ⟨w.heap.size,0,none⟩=some (.slice a n c):=(hB.cell (p:=⟨w.heap.size,0,none⟩) vq).trans vq;by_cases f:k<n;rotate_left
 .go_wp2_with fail;go_ret;have l:aw n (df z)=false:=dj λj hj=>HN.o j ow;exact⟨by rw[show ip n z=0 from by simp[ip,l]];rfl,b⟩
 go_wp2_with fail;refine(Re w.heap.size a n c z k wr f r o (t.below b) u).mono ?_;rintro e w1 ⟨rfl,d⟩;cases m:df z k
 .go_wp2_with fail;go_roundw
  case measure=>simp[intOf];omega
  refine⟨k+1,ow,vo,?_,hB.trans (d.mono hs)⟩;intro j hj;by_cases q:j=k
  .rw[q,m]
  exact Hi
 have l:Hid (aw n (df z)=true):=ir f m;go_wp2_with fail;go_ret;exact⟨by rw[show ip n z=1 from by simp[ip,l.o]];rfl,b.trans (d.mono ow)⟩
theorem Tr(s:Hs)(w:World)(hs:s.At w):
  Calls prog 213 #[s.val] w λe w'=>e = .returned (.int .i64 (ip s.n s.z))/\Bw w w':=by
 obtain⟨a,n,c,z⟩:=s;obtain⟨X,hc,K⟩:=hs;dsimp only at X hc K ⊢;have A:Hid (ip n z=if aw n (Av z) then 1 else 0):=by show ip n z=_;rw[X6];rfl
 unfold maxLen at hc;simp only[Hs.val]
 generalize ip n z=E at A ⊢
 go_enter func213,ntmps213;go_wp2_with fail
 go_loopw [3] (λi wk=>∃k:Nat,k<=n/\i = .int .i64 k/\(∀j,j<k->Av z j=false)/\Bw w wk) (λi _=>n-(intOf i).toNat)
 case atStart=>exact vu
 obtain⟨k,hk,rfl,v,f⟩:=hrel;have HN:=hid v;clear v;by_cases p:k<n;rotate_left
 .go_wp2_with fail;go_ret;have u:aw n (Av z)=false:=dj λj hj=>HN.o j ow;exact⟨by rw[A.o,u];rfl,f⟩
 have x:=K.below f;obtain⟨b,o,rfl,hb,T,U,V,W⟩:=x k p;obtain⟨r0,r1,r2,r3⟩:=jd T U V W;have m1:(0:Int)<=(k:Int):=ow;have m2:(k:Int)<(n:Int):=ow;cases t:il (z k)
 .have u:Hid (aw n (Av z)=true):=ir p (by simp[Av,t]);go_wp2_with fail;refine Qxq ko ko ?_
  repeat(go_big_quiet_step((go_at_call 230;exact Xxz (Cl (z k) _))))
  exact avl
 by_cases m:k=0
 .have G:Hid (Av z k=false):=by show Av z k=false;subst m;simp[Av,t]
  subst m;simp only[Nat.zero_mul,Nat.add_zero] at r0 r1 r2 r3;go_wp2_with fail;refine Qxq ko ko ?_
  repeat(go_big_quiet_step((go_at_call 230;exact Xxz (Cl (z 0) _))))
  refine Qqz ?_;intro _ g;obtain⟨⟨B,y⟩,d⟩:=g;subst d;go_wp2_with fail;go_roundw
  case measure=>simp[intOf];omega
  refine⟨1,ow,vo,?_,f.trans ((Qxx _ _ _).mono f.size)⟩;intro j hj;have:j=0:=ow;rw[this,G.o]
 obtain⟨q,rfl⟩:∃q,k=q+1:=⟨k-1,ow⟩;have D:il (z q)=true:=by
  have:=HN.o q ow;cases Y:il (z q)
  .simp[Av,Y] at this
  rfl
 obtain⟨b',o',H,af,L,M,Q,S⟩:=x q ow;simp only[co] at H;obtain⟨rfl,rfl⟩:=H;obtain⟨p0,p1,p2,p3⟩:=jd L M Q S;have m3:(0:Int)<=(q:Int):=ow;have m4:(q:Int)<(n:Int):=ow;have m5:(0:Int)<(q:Int)+1:=ow;have r:Hid _:=And.intro t D;have l:Hid (Av z (q+1)=decide (bj (z (q+1))<=bj (z q))):=by show Av z (q+1)=_;simp[Av,t]
 clear T U V W L M Q S m D;cases F:decide (bj (z (q+1))<=bj (z q));rotate_left
 .rw[F] at l;have u:Hid (aw n (Av z)=true):=ir p l.o;go_wp2_with fail;refine Qxq ko ko ?_
  repeat(go_big_quiet_step(first|(go_at_call 230;exact Xxz (Cl (z (q+1)) _))|(go_at_call 162;exact Xxz (V5 _ _ (by first|exact r.o.2|exact r.o.1)))))
  exact avl
 rw[F] at l;go_wp2_with fail;refine Qxq ko ko ?_
 repeat(go_big_quiet_step(first|(go_at_call 230;exact Xxz (Cl (z (q+1)) _))|(go_at_call 162;exact Xxz (V5 _ _ (by first|exact r.o.2|exact r.o.1)))))
 refine Qqz ?_;intro _ g;obtain⟨⟨B,y⟩,d⟩:=g;subst d;go_wp2_with fail;go_roundw
 case measure=>simp[intOf];omega
 refine⟨q+1+1,ow,vo,?_,f.trans ((Qxx _ _ _).mono f.size)⟩;intro j hj;by_cases J:j=q+1
 .rw[J,l.o]
 exact Hi
theorem zw{s:Sh}(a:iu p=0)(r:yf p s):fk p s=0:=by
 unfold fk;have b:aw s.n (λi=>qy p (s.r i))=false:=dj λi hi=>by
  have c:aw (s.r i).n (λj=>sx ((s.r i).z j))=false:=dj λj d=>by
   have:=r.num i hi j (by rw[<-r.len i hi];exact d);simp[sx,cy this]
  rw[qy,c,Bool.or_false];simp[r.len i hi]
 rw[b,Bool.or_false];simp[a,r.n]
theorem Ei{z z':Nat->Int}{m:Nat}{n:Int}:∀{k:Nat},m<k->(∀i,i<k->z' i=if i=m then z i+n else z i)->cq z' k=cq z k+n
 | k+1,hm,h=>by
  simp only[cq];by_cases a:m=k
  .subst a;rw[h m ow,if_pos rfl,wu (z:=z') (z':=z) λj b=>by rw[h j ow,if_neg ow]];omega
  rw[Ei (k:=k) ow λi hi=>h i ow,h k ow,if_neg ow];omega
def bq(x:Hd)(o l b:Int):Bool:=(x.o==o)&&(x.l==l)&&(x.b==b)
def keptV(n:Nat)(z:Nat->Hd)(o l b:Int):Int:=match (List.range n).find? (λi=>bq (z i) o l b) with
 | some i=>(z i).n
 | none=>0
theorem lq{o l b:Int}(h:∀j,j<n->bq (z j) o l b=false):keptV n z o l b=0:=by
 unfold keptV;have:(List.range n).find? (λi=>bq (z i) o l b)=none:=ao6;rw[this]
theorem oy{k:Nat}{o l b:Int}(a:k<n)(h:∀j,j<k->bq (z j) o l b=false)(hm:bq (z k) o l b=true):keptV n z o l b=(z k).n:=by
 unfold keptV;have e:List.range n=List.range k++(k :: (List.range (n-k-1)).map (λi=>k+1+i)):=al6;have:(List.range n).find? (λi=>bq (z i) o l b)=some k:=avj;rw[this]
theorem uj(n:Nat)(z:Nat->Hd)(o l b:Int):(∀j,j<n->bq (z j) o l b=false)\/∃k,k<n/\(∀j,j<k->bq (z j) o l b=false)/\bq (z k) o l b=true:=by
 induction n with
 | zero=>exact .inl λj a=>absurd a (Qzq _)
 | succ n ih =>
  rcases ih with h|⟨k,g,e,f⟩
  .cases d:bq (z n) o l b
   .refine .inl λj a => ?_;by_cases c:j=n
    .rw[c,d]
    exact h j ow
   exact .inr ⟨n,ow,h,d⟩
  exact .inr ⟨k,ow,e,f⟩
theorem fq{x:Hd}{o l b:Int}(h:bq x o l b=true):x.o=o/\x.l=l/\x.b=b:=by
 simpa[bq,and_assoc] using h
theorem yp(x:Hd):bq x x.o x.l x.b=true:=by simp[bq]
theorem Ku{x y:Hd}{o l b:Int}(hx:bq x o l b=true)(d:bq y o l b=true):bj x=bj y:=by
 have a:=fq hx;have c:=fq d;simp[bj,a,c]
def keptS(z:Nat->Hd)(o l:Int):Nat->Int
 | 0=>0
 | n+1=>keptS z o l n+if (z n).o=o/\(z n).l=l then(z n).n else 0
theorem Kn(i:aw (n+1) (df z)=false)(o l b:Int):keptV (n+1) z o l b=keptV n z o l b+if bq (z n) o l b then(z n).n else 0:=by
 rcases uj n z o l b with h|⟨k,f,d,c⟩
 .cases a:bq (z n) o l b
  .rw[lq h,lq λj m=>by
    by_cases e:j=n
    .rw[e,a]
    exact h j ow]
   simp
  rw[lq h,oy (Nat.lt_succ_self n) h a];simp
 have g:bq (z n) o l b=false:=by
  cases a:bq (z n) o l b
  .rfl
  have:=Ku c a;have:=re i k n f (Nat.lt_succ_self n);omega
 rw[oy f d c,oy ow d c,g];simp
theorem Ln(a:aw (n+1) (df z)=false):aw n (df z)=false:=dj λj b=>dv a j ow
theorem Af(z:Nat->Hd)(o l:Int):∀n,aw n (df z)=false->cq (λb=>keptV n z o l b) 6=keptS z o l n
 | 0,_=>by simp[cq,keptS,keptV]
 | n+1,hr=>by
  have f:=Af z o l n (Ln hr);have i:=cw (cd hr n (Nat.lt_succ_self n));by_cases a:(z n).o=o/\(z n).l=l
  .simp only[keptS,a,and_self,if_true];rw[<-f];refine Ei (m:=(z n).b.toNat) ow λb g => ?_;rw[Kn hr];by_cases c:b=(z n).b.toNat
   .have:bq (z n) o l b=true:=by
     have e:(b:Int)=(z n).b:=ow;simp[bq,a,e]
    rw[this,if_pos rfl,if_pos c]
   have:bq (z n) o l b=false:=by
    cases d:bq (z n) o l b
    .rfl
    have:=fq d;omega
   simp[this,c]
  simp only[keptS,a,if_false,Int.add_zero];rw[<-f];refine wu λb g => ?_;rw[Kn hr];have:bq (z n) o l b=false:=by
   cases d:bq (z n) o l b
   .rfl
   have:=fq d;exact absurd ⟨this.1,this.2.1⟩ a
  simp[this]
theorem wh{z:Nat->Hd}(o l:Int):∀n,(∀j,j<n->1<=(z j).n/\(z j).n<=200)->0<=keptS z o l n/\keptS z o l n<=200*n
 | 0,_=>by simp[keptS]
 | n+1,h=>by
  have b:=wh (z:=z) o l n λj a=>h j ow;have:=h n ow;simp only[keptS]
  split<;>omega
theorem Gt(h:∀j,j<n->1<=(z j).n/\(z j).n<=200)(o l b:Int):0<=keptV n z o l b/\keptV n z o l b<=200:=by
 rcases uj n z o l b with c|⟨k,a,d,e⟩
 .rw[lq c];omega
 rw[oy a d e];have:=h k a;omega
theorem Rh(s:Hs)(o l b:Int)(w:World)(hs:s.At w):
  Calls prog 107 #[s.val,.int .i64 o,.int .i64 l,.int .i64 b] w λe w'=>e = .returned (.int .i64 (keptV s.n s.z o l b))/\w'=w:=by
 obtain⟨a,n,c,z⟩:=s;obtain⟨B,hc,x⟩:=hs;dsimp only at B hc x ⊢;unfold maxLen at hc;simp only[Hs.val]
 generalize hV:keptV n z o l b=V
 have r:=hid hV;clear hV;go_enter func107,ntmps107;go_wp2_with fail
 go_loop [9] (λi=>∃k:Nat,k<=n/\i = .int .i64 k/\(∀j,j<k->bq (z j) o l b=false)) (λi=>n-(intOf i).toNat)
 case atStart=>exact⟨0,Qxz _,rfl,λj q=>absurd q (Qzq _)⟩
 obtain⟨k,F,rfl,m⟩:=hrel;have p:=hid m;clear m;by_cases g:k<n
 .obtain⟨D,G,rfl,E,H,J,K,L⟩:=x k g;cases d:bq (z k) o l b
  .have y:=hid d;unfold bq at d;cases t:((z k).o==o)
   .exact ahe
   cases u:((z k).l==l)
   .exact ahe
   have A:((z k).b==b)=false:=by simpa[t,u] using d
   exact ahe
  have f:Hid ((z k).n=V):=(oy g p.o d).symm.trans r.o;unfold bq at d;simp only[Xxx] at d;obtain⟨⟨t,u⟩,A⟩:=d;exact apc
 have f:Hid (0=V):=(lq λj q=>p.o j ow).symm.trans r.o;exact apc
theorem ael(s:Hs)(o l:Int)(w:World)(hs:s.At w)(g:aw s.n (df s.z)=false):
  Calls prog 215 #[s.val,.int .i64 o,.int .i64 l] w λe w'=>e = .returned (.int .i64 (keptS s.z o l s.n))/\w'=w:=by
 have a:Hid (∀b:Int,0<=keptV s.n s.z o l b/\keptV s.n s.z o l b<=200):=λb=>Gt (λj x=>(cw (cd g j x)).2.2.2) o l b;have p:=Af s.z o l s.n g;have m:=hid p;have v:Hid _:=hs;clear p g hs;have t:Hid (∀k:Nat,k<=6->0<=cq (λb=>keptV s.n s.z o l b) k/\cq (λb=>keptV s.n s.z o l b) k<=200*k):=λk f=>G5 (n:=6) (λj _=>a.o j) k f
 generalize keptS s.z o l s.n=E at m ⊢
 simp only[Hs.val];go_enter func215,ntmps215;go_wp2_with fail
 go_loopw [7,8] (λu i B=>∃k:Nat,k<=6/\i = .int .i64 k/\u = .int .i64 (cq (λb=>keptV s.n s.z o l b) k)/\B=w) (λ_ i _=>6-(intOf i).toNat)
 case atStart=>exact⟨0,ow,rfl,rfl,rfl⟩
 obtain⟨k,f,rfl,rfl,r⟩:=hrel;have d:Hid (wr=w):=r;clear r;have y:=t.o k f;have A:=a.o k;have c:Hid (cq (λb=>keptV s.n s.z o l b) (k+1)=cq (λb=>keptV s.n s.z o l b) k+keptV s.n s.z o l k):=rfl;by_cases D:k<6
 .generalize cq (λb=>keptV s.n s.z o l b) k=U at y c ⊢
  go_wp2_with fail;refine ap (Rh s o l k wr (by rw[d.o];exact v.o)) ?_
  generalize keptV s.n s.z o l k=V at A c ⊢
  go_wp2_with fail;go_roundw
  case rel=>exact⟨k+1,ow,vo,by rw[c.o],d.o⟩
  case measure=>simp[intOf];omega
 have q:k=6:=ow;subst q;rw[m.o];go_wp2_with fail;go_ret;exact⟨rfl,d.o⟩
theorem aqm(s:Hs)(o l:Int)(w:World)(hs:s.At w):
  Calls prog 210 #[s.val,.int .i64 o,.int .i64 l] w λe w'=>e = .returned (.tuple #[.int .i64 (if ip s.n s.z=0 then keptS s.z o l s.n else 0),.int .i64 (ip s.n s.z)])/\Bw w w':=by
 have v:Hid _:=hs;obtain⟨a,n,c,z⟩:=s;obtain⟨G,hc,E⟩:=hs;dsimp only at G hc E ⊢;unfold maxLen at hc;simp only[Hs.val];by_cases f:ip n z=0;rotate_left
 .rw[if_neg f];go_enter func210,ntmps210;go_wp2_with fail;refine(xh ⟨a,n,c,z⟩ w v.o).mono ?_;rintro e w1 ⟨rfl,g⟩;dsimp only;go_wp2_with fail
  go_ret2
  exact⟨rfl,g⟩
 have t:aw n (df z)=false:=by
  cases h:aw n (df z)
  .rfl
  simp[ip,h] at f
 have F:=zv t;have x:Hid (∀j,j<n->1<=(z j).n/\(z j).n<=200):=λj A=>(cw (cd t j A)).2.2.2;have y:Hid (∀k,k<=n->0<=keptS z o l k/\keptS z o l k<=200*k):=λk B=>wh o l k λj A=>x.o j ow;rw[if_pos f];have H0:=hid f;clear t;go_enter func210,ntmps210;go_wp2_with fail;refine(xh ⟨a,n,c,z⟩ w v.o).mono ?_;rintro e w1 ⟨rfl,g⟩;dsimp only;go_wp2_with fail;clear f
 go_loopw [9,19] (λu i J=>∃k:Nat,k<=n/\i = .int .i64 k/\u = .int .i64 (keptS z o l k)/\Bw w J) (λ_ i _=>n-(intOf i).toNat)
 case atStart=>exact⟨0,Qxz _,rfl,rfl,g⟩
 obtain⟨k,B,rfl,rfl,hB⟩:=hrel;have H:=y.o k B;by_cases m:k<n;rotate_left
 .have D:k=n:=ow;subst D;go_wp2_with fail
  go_ret2
  exact⟨N0,hB⟩
 obtain⟨b,q,rfl,K,M,Q,S,T⟩:=(E.below hB) k m;have L:=x.o k m;have p:Hid (keptS z o l (k+1)=keptS z o l k+if (z k).o=o/\(z k).l=l then(z k).n else 0):=rfl
 generalize keptS z o l k=U at H p ⊢
 cases h1:((z k).o==o)
 .have d:¬((z k).o=o/\(z k).l=l):=Jt;exact avf
 cases h2:((z k).l==l)
 .have d:¬((z k).o=o/\(z k).l=l):=aa2;exact avf
 have d:((z k).o=o/\(z k).l=l):=by simp at h1 h2;exact⟨h1,h2⟩
 have r:Hid _:=d;clear d;go_wp2_with fail;go_roundw
 case rel=>exact⟨k+1,ow,vo,by rw[p.o,if_pos r.o],hB.alloc Jr _⟩
 case measure=>simp[intOf];omega
structure Xu(n:Nat)(z:Nat->Hd)(t:Hd)(i:Nat):Prop where
 le:i<=n
 lo:∀q,q<i->oa (z q) t<0
 hi:∀q,i<=q->q<n->0<=oa (z q) t
theorem V8(h:aw n (df z)=false)(p q:Nat)(a:p<q)(b:q<n):oa (z p) (z q)<0:=by
 have c:=cd h p ow;have d:=cd h q b;have:=(C5 c d).1;have:=re h p q a b;omega
theorem Qt(s:Hs)(t:Hd)(w:World)(hs:s.At w)(T:aw s.n (df s.z)=false):
  Calls prog 186 #[s.val,t.val,.func (.func 187) #[] #[]] w λe w'=>∃i:Nat,e = .returned (.tuple #[.int .i64 i,.bool (decide (i<s.n)&&decide (oa (s.z i) t=0))])/\Xu s.n s.z t i/\Bw w w':=by
 have S:=zv T;have L:Hid (∀p q,p<q->q<s.n->oa (s.z p) (s.z q)<0):=λp q h1 g=>V8 T p q h1 g;clear T;obtain⟨a,n,c,z⟩:=s;obtain⟨hn,hc,U⟩:=hs;dsimp only at hn hc U S L ⊢;unfold maxLen at hc;have W:Bw w (w.alloc (.cells #[.int .i64 t.o,.int .i64 t.l,.int .i64 t.b,.int .i64 t.n] 107)):=brf.alloc nlr _;have hT:Hid (∀w1,Below (w.heap.size+1) (w.alloc (.cells #[.int .i64 t.o,.int .i64 t.l,.int .i64 t.b,.int .i64 t.n] 107)) w1->w1.cell? ⟨w.heap.size,0,none⟩=some (.int .i64 t.o)/\w1.cell? ⟨w.heap.size,0+1,none⟩=some (.int .i64 t.l)/\w1.cell? ⟨w.heap.size,0+2,none⟩=some (.int .i64 t.b)/\w1.cell? ⟨w.heap.size,0+3,none⟩=some (.int .i64 t.n)):=λw1 h =>
  ⟨(h.cell (p:=⟨w.heap.size,0,none⟩) vq).trans vq,(h.cell (p:=⟨w.heap.size,1,none⟩) vq).trans vq,(h.cell (p:=⟨w.heap.size,2,none⟩) vq).trans vq,(h.cell (p:=⟨w.heap.size,3,none⟩) vq).trans vq⟩
 simp only[Hs.val,Hd.val];go_enter func186,ntmps186;go_wp2_with fail
 go_loopw [9,10] (λu v wk=>∃i j:Nat,i<=j/\j<=n/\u = .int .i64 i/\v = .int .i64 j/\(∀q,q<i->oa (z q) t<0)/\(∀q,j<=q->q<n->0<=oa (z q) t)/\Below (w.heap.size+1) (w.alloc (.cells #[.int .i64 t.o,.int .i64 t.l,.int .i64 t.b,.int .i64 t.n] 107)) wk) (λu v _=>(intOf v).toNat-(intOf u).toNat)
 case atStart=>exact⟨0,n,Qxz _,Nat.le_refl _,rfl,rfl,λq hq=>absurd hq (Qzq _),λq h1 g=>ow,Below.refl _ _⟩
 obtain⟨i,j,ay,X,rfl,rfl,J,H,hB⟩:=hrel;have G:Hid _:=And.intro J H;clear J H;have k:Bw w wr:=W.trans (hB.mono ow);have K:w.heap.size+1<=wr.heap.size:=Z9;obtain⟨t0,t1,t2,t3⟩:=hT.o wr hB;obtain⟨p0,p1,p2,p3⟩:=jd t0 t1 t2 t3;simp only[Nat.zero_add] at p1 p2 p3;clear t0 t1 t2 t3;by_cases az:i<j;rotate_left
 .have Q:i=j:=ow;subst Q;have V:Hid (Xu n z t i):=⟨X,G.o.1,G.o.2⟩;by_cases x:i<n;rotate_left
  .have hd:decide ((i:Int)<(n:Int))=false:=oq;go_wp2_with fail;refine Qxq ko ko ?_
   repeat(go_big_quiet_step((go_at_call 187;exact Xxz (yi (z i) t _))))
   refine Qqz ?_;intro _ f;obtain⟨⟨M,A⟩,d⟩:=f;subst d;go_wp2_with fail
   go_ret2
   refine⟨i,?_,V.o,k.trans ((Qxx _ _ _).mono k.size)⟩;simp[x]
  obtain⟨b,o,rfl,hb,B,D,E,F⟩:=(U.below k) _ x;obtain⟨r0,r1,r2,r3⟩:=jd B D E F;clear B D E F;have m3:(0:Int)<=(i:Int):=ow;have m4:(i:Int)<(n:Int):=ow;have hd:decide ((i:Int)<(n:Int))=true:=oq;go_wp2_with fail;refine Qxq ko ko ?_
  repeat(go_big_quiet_step((go_at_call 187;exact Xxz (yi (z i) t _))))
  refine Qqz ?_;intro _ f;obtain⟨⟨M,A⟩,d⟩:=f;subst d;go_wp2_with fail
  go_ret2
  refine⟨i,?_,V.o,k.trans ((Qxx _ _ _).mono k.size)⟩;simp[x]
  rfl
 obtain⟨m,hm⟩:∃m,m=(i+j)/2:=⟨_,rfl⟩;have Y:i<=m/\m<j:=ow;have aa:Hid (((i:Int)+(j:Int))/2=(m:Int)):=by show((i:Int)+(j:Int))/2=(m:Int);omega
 clear hm;have hh:m<n:=ow;obtain⟨b,o,rfl,hb,B,D,E,F⟩:=(U.below k) _ hh;obtain⟨r0,r1,r2,r3⟩:=jd B D E F;clear B D E F;have m3:(0:Int)<=(m:Int):=ow;have m4:(m:Int)<(n:Int):=ow;go_wp2_with fail;rw[aa.o];cases h1:decide (oa (z m) t<0);rotate_left
 .have g:oa (z m) t<0:=xp;have r:Hid _:=g;clear g;refine Qxq ko ko ?_
  repeat(go_big_quiet_step((go_at_call 187;exact Xxz (yi (z m) t _))))
  refine Qqz ?_;intro _ f;obtain⟨⟨M,A⟩,d⟩:=f;subst d;go_wp2_with fail;go_roundw
  case measure=>simp[intOf];omega
  refine⟨m+1,j,ow,X,vo,vo,λq hq => ?_,G.o.2,hB.trans ((Qxx _ _ _).mono K)⟩;by_cases y:q=m
  .rw[y];exact r.o
  exact U6 (L.o q m ow ow) r.o
 have g:¬oa (z m) t<0:=xp;have r:Hid _:=g;clear g;refine Qxq ko ko ?_
 repeat(go_big_quiet_step((go_at_call 187;exact Xxz (yi (z m) t _))))
 refine Qqz ?_;intro _ f;obtain⟨⟨M,A⟩,d⟩:=f;subst d;go_wp2_with fail;go_roundw
 case measure=>simp[intOf];omega
 refine⟨i,m,Y.1,ow,vo,vo,G.o.1,λq h1 g => ?_,hB.trans ((Qxx _ _ _).mono K)⟩;by_cases y:q=m
 .rw[y];exact Int.not_lt.1 r.o
 rcases Int.lt_or_le (oa (z q) t) 0 with h|h
 .exact absurd (U6 (L.o m q ow g) h) r.o
 exact h
end Go.Proofs.YtjgckphgagdpaaaGreatDoor
namespace Go.Proofs.YtjgckphgagdpaaaGreatDoor
open _root_.Go.Proofs.Tryz
open Go.RowKit Go.Shelf Go.Lib
theorem P5:(prog.info? 107).map (λi=>(i.zero,i.size,i.bytes))=some (some (.agg #[.int .i64 0,.int .i64 0,.int .i64 0,.int .i64 0]),4,32):=ko
theorem aqj(n:Nat)(w:World)(o:n<=1000):
  Calls prog 226 #[.slice none 0 0,.int .i64 n] w λe w'=>∃v,e = .returned v/\w'.ownsRow w.heap.size 107 4 v 0 []/\Bw w w':=by
 obtain⟨c,hi,i,m,hz2⟩:=info_parts P5;by_cases k:n=0
 .subst k;go_enter func226,ntmps226
  go_wp2
  go_ret;exact⟨_,rfl,World.ownsRow_nil _ _ _ _,Below.refl _ _⟩
 have hold:(Builtin.firstCells c.size 0 (.slice none 0 0)).run prog w.drew = .ok (#[]:Array Value) w.drew:=run_firstCells_none w.drew c.size 0 0 0;have b:∀d,(Builtin.append_ #[33,3] d #[.slice none 0 0,.int .i64 (n:Int)]).run prog w =
   .ok (.slice (some ⟨w.heap.size,0,none⟩) n (grownCap w n 0 107)) (w.drew.alloc (.cells (#[]++Builtin.zeroCells (Value.agg #[.int .i64 0,.int .i64 0,.int .i64 0,.int .i64 0]).cells n++Builtin.zeroCells (Value.agg #[.int .i64 0,.int .i64 0,.int .i64 0,.int .i64 0]).cells (grownCap w n 0 107-n)) 107)):=λd=>by
  have h:=Lib.run_append_grow_zeros w 33 3 d 107 c (.agg #[.int .i64 0,.int .i64 0,.int .i64 0,.int .i64 0]) .i64 .i64 underlying33 underlying3 hi i none 0 0 [] hold n ow ow ow ow
   Ju
   (by rw[Nat.zero_add];exact growslice_fits ow Ju)
  rw[Nat.zero_add] at h;exact h
 have g:n<=grownCap w n 0 107:=grownCap_ge w _ _ _;have a:=grownCap_le_maxLen w n 0 107 uo;obtain⟨G,f⟩:∃G,G=grownCap w n 0 107:=⟨_,rfl⟩;rw[<-f] at b g a;have j:=hid a;unfold maxLen at a;have l:(0:Int)<(n:Int):=ow;clear hold f;go_enter func226,ntmps226;go_wp2_with(at_builtin;refine Lib.wpList_append_run _ rfl _ _ _ _ rfl _ _ rfl rfl _ _ (b _) ?_);go_ret;refine⟨_,rfl,?_,(brf.alloc nlr _).drew⟩;exact(World.ownsRow_made (base:=w.heap.size) (e:=107) (size:=4) w (Builtin.zeroCells #[.int .i64 0,.int .i64 0,.int .i64 0,.int .i64 0] n++Builtin.zeroCells #[.int .i64 0,.int .i64 0,.int .i64 0,.int .i64 0] (G-n)) G nlr j.o (by
  simp[Builtin.zeroCells];omega)).drew
def ba(n:Nat)(z:Nat->Hd):List Value:=(List.range n).flatMap λi=>dt (z i)
theorem iz:∀(n:Nat) (z:Nat->Hd),(ba n z).length=n*4
 | 0,_=>rfl
 | n+1,z=>by
  have:=iz n z;unfold ba at *;rw[List.range_succ,List.flatMap_append,List.length_append,this];simp[dt];omega
theorem vj(n:Nat)(z:Nat->Hd):ba (n+1) z=ba n z++dt (z n):=by
 unfold ba;rw[List.range_succ,List.flatMap_append];simp
theorem zk:∀(n:Nat) (z:Nat->Hd) (i c:Nat),i<n->c<4->(ba n z)[i*4+c]?=(dt (z i))[c]?
 | n+1,z,i,c,hi,hc=>by
  rw[vj];by_cases a:i=n
  .subst a;rw[List.getElem?_append_right aas,iz]
   congr 1
   omega
  rw[List.getElem?_append_left aas];exact zk n z i c ow hc
theorem pn{n:Nat}{z z':Nat->Hd}(h:∀i,i<n->z i=z' i):ba n z=ba n z':=by
 unfold ba;rw[List.flatMap_def,List.flatMap_def];rw[List.map_congr_left λi hi=>by rw[h i (List.mem_range.1 hi)]]
theorem ot(n:Nat)(z:Nat->Hd):∀u∈ba n z,u.oneCell'=true:=by
 intro u a;unfold ba at a;rw[List.mem_flatMap] at a;obtain⟨i,_,hi⟩:=a;simp[dt] at hi;rcases hi with rfl|rfl|rfl|rfl<;>rfl
theorem jx.news{w:World}{b o n:Nat}{z:Nat->Hd}(h:jx w (some ⟨b,o,none⟩) n z):∀j u,(ba n z)[j]?=some u->w.cell? ((⟨b,o,none⟩:Addr).add j)=some u:=by
 intro j u a;have l:j<n*4:=by
  have:=(List.getElem?_eq_some_iff.1 a).1
  rwa[iz] at this
 have d:j=(j/4)*4+j%4:=ow;have e:j/4<n:=ow;obtain⟨m,p,c,_,f,g,i,k⟩:=h (j/4) e;simp only[co] at c;obtain⟨rfl,rfl⟩:=c;rw[d,zk n z _ _ e ow] at a;rw[Go.WideShapes.add_plain];have hc:j%4=0\/j%4=1\/j%4=2\/j%4=3:=ow;rcases hc with hc|hc|hc|hc
 .rw[hc] at a;simp[dt] at a;rw[<-a,<-f];congr 2;omega
 .rw[hc] at a;simp[dt] at a;rw[<-a,<-g];congr 2;omega
 .rw[hc] at a;simp[dt] at a;rw[<-a,<-i];congr 2;omega
 rw[hc] at a;simp[dt] at a;rw[<-a,<-k];congr 2;omega
theorem Hs.ofOwns{w:World}{base:Nat}{e:TypeId}{v:Value}{n:Nat}{z:Nat->Hd}(h:w.ownsRow base e 4 v n (ba n z)):∃s:Hs,v=s.val/\s.At w/\s.n=n/\s.z=z:=by
 by_cases hv:v = .slice none 0 0
 .have l:n=0:=aoc;subst l;exact⟨⟨none,0,0,z⟩,hv,⟨Nat.le_refl _,Qxz _,λi hi=>absurd hi (Qzq _),λ_=>rfl⟩,rfl,rfl⟩
 obtain⟨g,c,rfl,f,j,m,a⟩:=Blk.ofOwns h hv;refine⟨⟨some ⟨g,0,none⟩,n,c,z⟩,rfl,⟨f,j,λi hi => ?_,λh=>ix⟩,rfl,rfl⟩;have b:i<n:=hi;have k:∀q,q<4->w.cell? ⟨g,0+i*4+q,none⟩=some ((ba n z).getD (i*4+q) default):=λq d=>by
  rw[Nat.zero_add];exact a.cell ow
 have e:∀q,q<4->(ba n z).getD (i*4+q) default=(dt (z i)).getD q default:=λq d=>by
  simp only[List.getD,zk n z i q b d]
 refine⟨g,0,rfl,a.lt,?_,?_,?_,?_⟩
 .have:=k 0 ow;rw[e 0 ow] at this;simpa[dt] using this
 .have:=k 1 ow;rw[e 1 ow] at this;simpa[dt] using this
 .have:=k 2 ow;rw[e 2 ow] at this;simpa[dt] using this
 have:=k 3 ow;rw[e 3 ow] at this;simpa[dt] using this
end Go.Proofs.YtjgckphgagdpaaaGreatDoor
namespace Go.Proofs.YtjgckphgagdpaaaGreatDoor
variable{n b A g l c i m q r j R C M u:Nat}{P:Prop}{w a w' d X:World}{W J K D:Int}{e t:TypeId}{p:Pl}{z H:Nat->Hd}{f O:Nat->Value}{Q:Exit->Act->World->Prop}{v U:Value}{V Y:Hs}{Z E:Int->Int->Int}{h:Hd}{xs:List Value}{S:World->Prop}{z' zs:Nat->Int}{a1:Act}
open _root_.Go.Proofs.Tryz
open Go.RowKit Go.Shelf
def yv(S:Nat->Hs):Nat->Nat
 | 0=>0
 | k+1=>yv S k+(S k).n
def F9(S:Nat->Hs):Nat->List Value
 | 0=>[]
 | k+1=>F9 S k++ba (S k).n (S k).z
theorem Uq{S:Nat->Hs}{m:Nat}(h:∀i,i<m->(S i).n<=100):∀k,k<=m->yv S k<=100*k
 | 0,_=>by simp[yv]
 | k+1,hk=>by
  have:=Uq h k ow;have:=h k ow;simp only[yv];omega
theorem J1(m g K:Nat)(S:Nat->Hs)(w:World)(hm:m<=3)(aj:m<=K)(W:K<=maxLen)(X:Blk w g 33 m (λi => .slice (S i).a (S i).n (S i).c))(G:∀i,i<m->(S i).At w)(hn:∀i,i<m->(S i).n<=100):
  Calls prog 188 #[.slice (some ⟨g,0,none⟩) m K] w λe w'=>∃v,e = .returned v/\w'.ownsRow w.heap.size 107 4 v (yv S m) (F9 S m)/\Bw w w':=by
 obtain⟨i0,hi,ab,ac,ae⟩:=info_parts P5;have J:=hid G;have A:=hid hn;clear G hn;unfold maxLen at W;go_enter func188,ntmps188;go_wp2_with fail
 go_loop [3,11] (λu i=>∃k:Nat,k<=m/\i = .int .i64 k/\u = .int .i64 (yv S k:Nat)) (λ_ i=>m-(intOf i).toNat)
 case atStart=>exact⟨0,Qxz _,rfl,rfl⟩
 obtain⟨k,hk,rfl,rfl⟩:=hrel;have b1:=Uq A.o k hk;by_cases r:k<m
 .have b2:=A.o k r;have Q:=X.cell r;have le:=(J.o k r).le;have cap:=(J.o k r).cap;unfold maxLen at cap;have s:Hid (yv S (k+1)=yv S k+(S k).n):=rfl
  generalize yv S k=U at b1 s ⊢
  go_wp2_with fail
  go_round
  case rel=>exact⟨k+1,ow,vo,by rw[s.o];go_num⟩
  case measure=>simp[intOf];omega
 have Y:k=m:=ow;subst Y;go_wp2_with fail;refine(aqj (yv S k) w ow).mono ?_;rintro e w1 ⟨v0,rfl,d,T⟩;go_wp2_with fail
 go_loopw [6,27] (λv i wk=>∃j:Nat,j<=k/\i = .int .i64 j/\wk.ownsRow w.heap.size 107 4 v (yv S j) (F9 S j)/\Bw w wk) (λ_ i _=>k-(intOf i).toNat)
 case atStart=>exact⟨0,Qxz _,rfl,d,T⟩
 obtain⟨j,hj,rfl,d,p⟩:=hrel;by_cases x:j<k;rotate_left
 .have L:j=k:=ow;subst L;go_wp2_with fail;go_ret;exact⟨_,rfl,d,p⟩
 have Q:=(X.below p).cell x;have hs:=(J.o j x).below p;have b2:=A.o j x;have b3:=Uq A.o j ow;cases B:(S j).a with
 | none =>
  have H:(S j).n=0:=by
   rcases Nat.eq_zero_or_pos (S j).n with h|h
   .exact h
   obtain⟨_,_,t,_⟩:=hs.hds 0 h;rw[B] at t;cases t
  rw[B,H,hs.nilc B] at Q;have s:Hid (yv S (j+1)=yv S j/\F9 S (j+1)=F9 S j):=by
   show _/\_;simp[yv,F9,H,ba]
  go_wp2_with(at_builtin;refine wpList_append_own_none rfl (.tmp 31) (.tmp 32) 33 rfl w.heap.size 107 i0 4 underlying33 hi _ _ _ rfl d rfl ?_);go_roundw
  case rel=>exact⟨j+1,ow,vo,by rw[s.o.1,s.o.2];exact d,p⟩
  case measure=>simp[intOf];omega
 | some ad =>
  have f:=hs.hds;rw[B] at Q f;go_wp2_with(at_builtin;refine wpList_append_own _ rfl (.tmp 31) (.tmp 32) 33 rfl w.heap.size 107 i0 (.agg #[.int .i64 0,.int .i64 0,.int .i64 0,.int .i64 0]) 4 32 underlying33 hi ab ac ae rfl dc _ _ _ rfl d ad (S j).n (S j).c (ba (S j).n (S j).z) rfl ?c1 ?c2 ?c3 ?c4 ?c5 ?c6 ?_)
  case c1=>exact iz _ _
  case c2 =>
   intro q u F;have M:0<(S j).n:=by
    have:=(List.getElem?_eq_some_iff.1 F).1;rw[iz] at this;omega
   obtain⟨b,o,t,_⟩:=f 0 M;simp only[Qkx] at t;subst t;exact f.news q u F
  case c3=>exact ot _ _
  case c4=>unfold maxLen;omega
  case c5=>omega
  case c6=>exact p.size
  intro v' w2 E l D;have y:=d.lt;have V:Bw w w2:=p.grown l p.size (λq F=>(y q F).1);clear l D y f;go_wp2_with fail;go_roundw
  case rel=>exact⟨j+1,ow,vo,E,V⟩
  case measure=>simp[intOf];omega
def ct(A:Nat)(e:TypeId)(w:World)(s:Hs):Prop:=s.n<=s.c/\s.c<=maxLen/\(s.a=none->s.c=0)/\(0<s.n->∃g,s.a=some ⟨g,0,none⟩/\A<=g/\Blk w g e (s.n*4) (λj=>(ba s.n s.z).getD j default))
theorem ct.at{s:Hs}(h:ct A e w s):s.At w:=by
 obtain⟨d,f,l,m⟩:=h;refine⟨d,f,λi hi => ?_,l⟩;obtain⟨g,q,hA,b⟩:=m ow;have c:∀k,k<4->w.cell? ⟨g,0+i*4+k,none⟩=(dt (s.z i))[k]?:=λk r=>by
  have o:=b.cell (j:=i*4+k) ow;have p:=zk s.n s.z i k hi r;have a:i*4+k<(ba s.n s.z).length:=aas;rw[Nat.zero_add,o,<-p,List.getElem?_eq_getElem a];simp[List.getD,List.getElem?_eq_getElem a]
 exact⟨g,0,q,b.lt,c 0 dc,c 1 dc,c 2 dc,c 3 dc⟩
theorem ct.below{s:Hs}(h:ct A e w s)(f:Bw w w'):ct A e w' s:=by
 obtain⟨a,b,c,d⟩:=h;refine⟨a,b,c,λk => ?_⟩;obtain⟨g,i,hA,j⟩:=d k;exact⟨g,i,hA,j.below f⟩
theorem Blk.ne2{a:TypeId}{d:Nat->Value}(h:Blk w g e n f)(h':Blk w b a i d)(he:e≠a):g≠b:=ans
theorem ct.other{s:Hs}(h:ct A e w s)(p:Blk w q t n f)(c:e≠t)(j:Nat)(u:Value):ct A e (w.setCell ⟨q,j,none⟩ u) s:=by
 obtain⟨d,i,k,l⟩:=h;refine⟨d,i,k,λo => ?_⟩;obtain⟨g,m,hA,b⟩:=l o;exact⟨g,m,hA,b.other (a:=⟨q,j,none⟩) (Blk.ne2 b p c) u⟩
theorem ct.mono{a:Nat}{s:Hs}(h:ct A e w s)(hA:a<=A):ct a e w s:=by
 obtain⟨b,c,d,f⟩:=h;refine⟨b,c,d,λk => ?_⟩;obtain⟨g,i,l,j⟩:=f k;exact⟨g,i,ow,j⟩
def gp(A:Nat)(w:World)(e:TypeId)(size:Nat)(a:Option Addr)(c:Nat):Prop:=c=0\/∃g cur,a=some ⟨g,0,none⟩/\A<=g/\w.heap[g]?=some (.cells cur e (0,0))/\cur.size=c*size
theorem gp.ofOwns{size:Nat}{a:Option Addr}(h:w.ownsRow A e size (.slice a n c) j xs)(hA:b<=A):gp b w e size a c:=by
 obtain⟨_,⟨h,_⟩|⟨g,cap,cur,h,f,i,k,l,d,m⟩⟩:=h
 .cases h;exact Or.inl rfl
 cases h;exact Or.inr ⟨g,cur,rfl,Qzx hA f,i,d⟩
theorem gp.same{size:Nat}{a:Option Addr}(h:gp A w e size a c)(hs:∀(g:Nat) (cur:Array Value),w.heap[g]?=some (.cells cur e (0,0))->w'.heap[g]?=w.heap[g]?):gp A w' e size a c:=by
 rcases h with h|⟨g,cur,d,f,b,i⟩
 .exact Or.inl h
 exact Or.inr ⟨g,cur,d,f,(hs g cur b).trans b,i⟩
theorem gp.below{size:Nat}{a:Option Addr}(h:gp A w e size a c)(b:Bw w w'):gp A w' e size a c :=
 h.same λg _ d=>b.block g (Qkq d).1
theorem gp.mono{size:Nat}{a:Option Addr}(h:gp A w e size a c)(hA:b<=A):gp b w e size a c:=by
 rcases h with h|⟨g,cur,d,i,f⟩
 .exact Or.inl h
 exact Or.inr ⟨g,cur,d,ow,f⟩
theorem gp.set{size:Nat}{a:Option Addr}(h:gp A w e size a c)(q j:Nat)(u:Value):gp A (w.setCell ⟨q,j,none⟩ u) e size a c:=by
 rcases h with h|⟨g,cur,b,d,f,i⟩
 .exact Or.inl h
 by_cases k:g=q
 .subst k;exact Or.inr ⟨g,cur.setIfInBounds j u,b,d,by simp[World.setCell,Array.getElem?_modify,f],by simpa using i⟩
 exact Or.inr ⟨g,cur,b,d,(Below.heap_setCell w ⟨q,j,none⟩ u g k).trans f,i⟩
theorem ct.nil(A:Nat)(e:TypeId)(w:World)(z:Nat->Hd):ct A e w ⟨none,0,0,z⟩:=⟨Nat.le_refl _,Qxz _,λ_=>rfl,λh=>absurd h (Nat.lt_irrefl _)⟩
theorem ct.ofRow{base:Nat}(h:w.ownsRow base e 4 v n (ba n z))(hA:A<=base):∃s:Hs,v=s.val/\ct A e w s/\s.n=n/\s.z=z:=by
 by_cases hv:v = .slice none 0 0
 .have i:n=0:=aoc;subst i;exact⟨⟨none,0,0,z⟩,hv,ct.nil A e w z,rfl,rfl⟩
 obtain⟨g,c,rfl,a,b,d,f⟩:=Blk.ofOwns h hv;exact⟨⟨some ⟨g,0,none⟩,n,c,z⟩,rfl,⟨a,b,(λe=>En),λ_=>⟨g,rfl,Qzx hA d,f⟩⟩,rfl,rfl⟩
theorem Ad:(prog.info? 3).map (λi=>(i.zero,i.size,i.bytes))=some (some (.int .i64 0),1,8):=ko
theorem Y5:(prog.info? 23).map (λi=>(i.zero,i.size,i.bytes))=some (some (.slice none 0 0),1,24):=ko
theorem Ho(b o n c:Nat)(z:Nat->Int)(w:World)(H:n*8<=140737488355328)(T:0<n)
  (hc:lw w (some ⟨b,o,none⟩) n z) :
  Calls prog 177 #[.slice (some ⟨b,o,none⟩) n c] w λe w'=>∃g d,e = .returned (.slice (some ⟨g,0,none⟩) n d)/\n<=d/\d<=maxLen/\w.heap.size<=g/\Blk w' g 3 n (λj => .int .i64 (z j))/\Bw w w':=by
 obtain⟨L,hi,v,y,A⟩:=info_parts Ad;have Q:∀(w:World) (a:Option Addr) (n c r d:Nat),(binOp .eql 23 (.slice a n c) (.slice none r d)).run prog w = .ok (.bool a.isNone) w:=λw a n c r d=>Lib.run_eql_slice_nil w _ _ a n c r d underlying23;go_enter func177,ntmps177;go_wp2_with(at_builtin;refine wpList_append_own _ rfl _ _ 23 rfl w.heap.size 3 L (.int .i64 0) 1 8 underlying23 hi v y A rfl dc _ _ _ rfl (World.ownsRow_made w #[] 0 nlr (Qxz _) rfl) ⟨b,o,none⟩ n c ((List.range n).map λj=>Value.int .i64 (z j)) rfl ?qc1 ?qc2 ?qc3 ?qc4 ?qc5 ?qc6 ?_)
 case qc1=>simp
 case qc2 =>
  intro j u hj;have q:j<n:=ab8;obtain⟨S,U,t,G,m⟩:=hc j q;simp only[co] at t;obtain⟨rfl,rfl⟩:=t;rw[Go.WideShapes.add_plain];rw[((Below.refl w.heap.size w).alloc nlr _).cell (p:=⟨b,o+j,none⟩) G,m];simp[q] at hj;rw[hj]
 case qc3=>intro u J;obtain⟨x,_,rfl⟩:=List.mem_map.1 J;rfl
 case qc4=>unfold maxLen;omega
 case qc5=>omega
 case qc6=>simp
 intro M w1 l f i;have K:M ≠ .slice none 0 0:=i;obtain⟨g,d,rfl,B,D,E,s⟩:=Blk.ofOwns l K;rw[Nat.mul_one] at s;have F:Bw w w1:=((Below.refl _ w).alloc nlr _).grown f vq Oy;clear l f i hc
 go_wp2
 go_ret;exact⟨g,d,rfl,B,D,E,s.congr (λj hj=>He),F⟩
theorem afq(hj:j<n):(madeCells (Value.slice none 0 0).cells n).toList.getD j default = .slice none 0 0:=ace
theorem Mx(s:Sh)(w:World)(hs:s.At w)(hn:s.n<=6)(hr:∀i,i<s.n->1<=(s.r i).n/\(s.r i).n<=3):
  Calls prog 173 #[s.val] w λe w'=>∃(g:Nat) (G C:Nat->Nat),e = .returned (.slice (some ⟨g,0,none⟩) s.n s.n)/\w.heap.size<=g /\
   Blk w' g 23 s.n (λi => .slice (some ⟨G i,0,none⟩) (s.r i).n (C i)) /\
   (∀i,i<s.n->g<G i/\(s.r i).n<=C i/\C i<=maxLen/\Blk w' (G i) 3 (s.r i).n (λj => .int .i64 ((s.r i).z j))) /\
   (∀i j,i<j->j<s.n->G i<G j)/\Bw w w':=by
 obtain⟨ag,D,rows⟩:=hs;obtain⟨s0,t,sc,a⟩:=s;dsimp only at ag D rows hn hr;unfold maxLen at D;simp only[Sh.val];obtain⟨i0,hi,ae,af,hz2⟩:=info_parts Y5;go_enter func173,ntmps173;go_wp2_with(at_make;refine wpList_make_full _ rfl _ _ 31 rfl w.heap.size 23 i0 (.slice none 0 0) 1 underlying31 hi ae af .i64 .i64 _ _ t rfl rfl rfl rfl Ju uo nlr ?_;intro w1 B l);obtain⟨g,c',hv,_,_,_,x⟩:=Blk.ofOwns B vq;simp only[co,Value.slice.injEq] at hv;obtain⟨rfl,-,-⟩:=hv;rw[Nat.mul_one] at x;have V:Bw w w1:=(Below.refl _ w).grown l nlr Ba;clear B l
 go_loopw [11] (λi T=>∃k:Nat,k<=t/\i = .int .i64 k/\(∃(G C:Nat->Nat),Blk T w.heap.size 23 t (λi=>if i<k then .slice (some ⟨G i,0,none⟩) (a i).n (C i) else .slice none 0 0) /\
   (∀i,i<k->w.heap.size<G i/\(a i).n<=C i/\C i<=maxLen/\Blk T (G i) 3 (a i).n (λj => .int .i64 ((a i).z j))) /\
   (∀i j,i<j->j<k->G i<G j))/\Bw w T) (λi _=>t-(intOf i).toNat)
 case atStart=>exact⟨0,Qxz _,rfl,⟨λ_=>0,λ_=>0,x.congr (λj hj=>by rw[afq hj];simp),λi hi=>absurd hi (Qzq _),λi j _ hj=>absurd hj (Qzq _)⟩,V⟩
 obtain⟨k,hk,rfl,y,L⟩:=hrel;by_cases A:k<t;rotate_left
 .go_wp2_with fail;go_ret;have ab:k=t:=ow;subst ab;obtain⟨G,C,u,c,q⟩:=y;exact⟨w.heap.size,G,C,rfl,Nat.le_refl _,u.congr (λj hj=>He),c,q,L⟩
 obtain⟨b,o,rfl,hb,z0,Y⟩:=(rows.below L) k A;have aw:=hr k A;obtain⟨ax,ao,ints⟩:=Y;obtain⟨b1,o1,X,au,y0⟩:=ints 0 ow;rw[X] at z0 ints;clear y0;have HG:Hid _:=y;clear y X;have m1:(0:Int)<=(k:Int):=ow;go_wp2_with fail;refine(Ho b1 o1 _ _ (a k).z _ ow ow ints).mono ?_;rintro e w2 ⟨g,c2,rfl,h1,h2,h3,U,v⟩;obtain⟨G,C,u,c,q⟩:=HG.o;have ar:=u.lt;have f:=u.below v;have av:=f.frozen k;have aa:=f.cell A;simp only[Nat.lt_irrefl,if_false] at aa;have W:=L.trans (v.mono L.size);have st:=W.setCell (p:=⟨w.heap.size,k,none⟩) nlr (.slice (some ⟨g,0,none⟩) (a k).n c2);have F:=f.set k (.slice (some ⟨g,0,none⟩) (a k).n c2);have K:∀i,i<k->Blk (w2.setCell ⟨w.heap.size,k,none⟩ (.slice (some ⟨g,0,none⟩) (a k).n c2)) (G i) 3 (a i).n (λj => .int .i64 ((a i).z j)):=λi hi=>((c i hi).2.2.2.below v).other (by have:=(c i hi).1;show _≠w.heap.size;omega) _;have J:Blk (w2.setCell ⟨w.heap.size,k,none⟩ (.slice (some ⟨g,0,none⟩) (a k).n c2)) g 3 (a k).n (λj => .int .i64 ((a k).z j)):=U.other (by show _≠w.heap.size;omega) _;have E:∀i,i<k->G i<g:=λi hi=>by have:=(c i hi).2.2.2.lt;omega
 have H:Hid _:=And.intro F (And.intro K (And.intro J (And.intro E (And.intro c q))));clear F K J E u f q U c;go_wp2_with fail;go_roundw
 case measure=>simp[intOf];omega
 obtain⟨F,K,J,E,c,q⟩:=H.o;refine⟨k+1,ow,vo,⟨λi=>if i=k then g else G i,λi=>if i=k then c2 else C i,F.congr ?_,?_,?_⟩,st⟩
 .intro j hj;by_cases d:j=k
  .subst d;simp
  by_cases S:j<k
  .simp[d,S,show j<k+1 by omega]
  simp[d,S,show ¬j<k+1 by omega]
 .intro i hi;by_cases Q:i=k
  .subst Q;simp only[if_true];exact⟨ow,h1,h2,J⟩
  simp only[Q,if_false];have m:i<k:=ow;exact⟨(c i m).1,(c i m).2.1,(c i m).2.2.1,K i m⟩
 intro i j M hj;by_cases d:j=k
 .subst d;simp[show ¬i=j by omega,E i M]
 simp[d,show ¬i=k by omega,q i j M ow]
def uq(A:Nat)(e:TypeId)(s:Hs)(w':World)(s':Hs):Prop:=s'.n=s.n/\(∀j,j<s.n->s'.z j=s.z j)/\ct A e w' s'/\gp A w' e 4 s'.a s'.c
theorem ct.ofOwns{base:Nat}(h:w.ownsRow base e 4 v n (ba n z))(j:v ≠ .slice none 0 0):∃s:Hs,v=s.val/\s.n=n/\s.z=z/\ct base e w s/\gp base w e 4 s.a s.c:=by
 obtain⟨g,c,rfl,b,d,f,i⟩:=Blk.ofOwns h j;exact⟨⟨some ⟨g,0,none⟩,n,c,z⟩,rfl,rfl,rfl,⟨b,d,(λe=>En),λ_=>⟨g,rfl,f,i⟩⟩,gp.ofOwns h nlr⟩
theorem Nb:(prog.info? 107).map (λi=>(i.zero,i.size,i.bytes))=some (some (.agg #[.int .i64 0,.int .i64 0,.int .i64 0,.int .i64 0]),4,32):=ko
theorem Wd(s:Hs)(w:World)(hs:s.At w)(K:s.n<=1000):
  Calls prog 175 #[s.val] w λe w'=>∃d:Hs,e = .returned d.val/\uq w.heap.size 107 s w' d/\Bw w w':=by
 obtain⟨H,v,sh,f⟩:=hs;obtain⟨sa,l,M,sz⟩:=s;dsimp only at H v sh f K;simp only[Hs.val];obtain⟨L,hi,E,F,G⟩:=info_parts Nb;have Q:∀(w:World) (a:Option Addr) (n c t r:Nat),(binOp .eql 33 (.slice a n c) (.slice none t r)).run prog w = .ok (.bool a.isNone) w:=λw a n c t r=>Lib.run_eql_slice_nil w _ _ a n c t r underlying33;cases sa with
 | none =>
  have B:=f rfl;subst B;have D:l=0:=ow;subst D;go_enter func175,ntmps175;exact abd
 | some ad =>
  have i:∀j u,(ba l sz)[j]?=some u->w.cell? (ad.add j)=some u/\(ad.add j).block<w.heap.size:=λj u hj=>ahc;have HN:=hid i;clear i sh f;go_enter func175,ntmps175;go_wp2_with(at_builtin;refine wpList_append_own _ rfl _ _ 33 rfl w.heap.size 107 L (.agg #[.int .i64 0,.int .i64 0,.int .i64 0,.int .i64 0]) 4 32 underlying33 hi E F G rfl dc _ _ _ rfl (World.ownsRow_made w #[] 0 nlr (Qxz _) rfl) ad l M (ba l sz) rfl ?qc1 ?qc2 ?qc3 ?qc4 ?qc5 ?qc6 ?_)
  case qc1=>rw[iz]
  case qc2 =>
   exact Ta
  case qc3=>exact ot l sz
  case qc4=>unfold maxLen;omega
  case qc5=>omega
  case qc6=>simp
  intro S w1 q g m;have J:Bw w w1:=((Below.refl _ w).alloc nlr _).grown g vq Oy;obtain⟨d,rfl,x,y,A⟩:=ct.ofOwns q m;clear q g m;have HR:Hid (d.n=l/\d.z=sz/\ct w.heap.size 107 w1 d/\gp w.heap.size w1 107 4 d.a d.c):=⟨x,y,A⟩;clear x y A;simp only[Hs.val]
  go_wp2
  go_ret;exact⟨d,rfl,⟨HR.o.1,λj _=>aa9,HR.o.2.2⟩,J⟩
theorem Vl:(prog.info? 110).map (λi=>(i.zero,i.size,i.bytes))=some (some (.agg #[.int .i64 0,.int .i64 0,.int .i64 0,.int .i64 0]),4,32):=ko
theorem We(s:Hs)(w:World)(hs:s.At w)(K:s.n<=1000):
  Calls prog 176 #[s.val] w λe w'=>∃d:Hs,e = .returned d.val/\uq w.heap.size 110 s w' d/\Bw w w':=by
 obtain⟨H,v,sh,f⟩:=hs;obtain⟨sa,l,M,sz⟩:=s;dsimp only at H v sh f K;simp only[Hs.val];obtain⟨L,hi,E,F,G⟩:=info_parts Vl;have Q:∀(w:World) (a:Option Addr) (n c t r:Nat),(binOp .eql 34 (.slice a n c) (.slice none t r)).run prog w = .ok (.bool a.isNone) w:=λw a n c t r=>Lib.run_eql_slice_nil w _ _ a n c t r underlying34;cases sa with
 | none =>
  have B:=f rfl;subst B;have D:l=0:=ow;subst D;go_enter func176,ntmps176;exact abd
 | some ad =>
  have i:∀j u,(ba l sz)[j]?=some u->w.cell? (ad.add j)=some u/\(ad.add j).block<w.heap.size:=λj u hj=>ahc;have HN:=hid i;clear i sh f;go_enter func176,ntmps176;go_wp2_with(at_builtin;refine wpList_append_own _ rfl _ _ 34 rfl w.heap.size 110 L (.agg #[.int .i64 0,.int .i64 0,.int .i64 0,.int .i64 0]) 4 32 underlying34 hi E F G rfl dc _ _ _ rfl (World.ownsRow_made w #[] 0 nlr (Qxz _) rfl) ad l M (ba l sz) rfl ?qc1 ?qc2 ?qc3 ?qc4 ?qc5 ?qc6 ?_)
  case qc1=>rw[iz]
  case qc2 =>
   exact Ta
  case qc3=>exact ot l sz
  case qc4=>unfold maxLen;omega
  case qc5=>omega
  case qc6=>simp
  intro S w1 q g m;have J:Bw w w1:=((Below.refl _ w).alloc nlr _).grown g vq Oy;obtain⟨d,rfl,x,y,A⟩:=ct.ofOwns q m;clear q g m;have HR:Hid (d.n=l/\d.z=sz/\ct w.heap.size 110 w1 d/\gp w.heap.size w1 110 4 d.a d.c):=⟨x,y,A⟩;clear x y A;simp only[Hs.val]
  go_wp2
  go_ret;exact⟨d,rfl,⟨HR.o.1,λj _=>aa9,HR.o.2.2⟩,J⟩
theorem Ed:(prog.info? 115).map (λi=>(i.zero,i.size,i.bytes))=some (some (.agg #[.int .i64 0,.int .i64 0,.int .i64 0,.int .i64 0]),4,32):=ko
theorem Mc(s:Hs)(w:World)(hs:s.At w)(K:s.n<=1000):
  Calls prog 132 #[s.val] w λe w'=>∃d:Hs,e = .returned d.val/\uq w.heap.size 115 s w' d/\Bw w w':=by
 obtain⟨H,v,sh,f⟩:=hs;obtain⟨sa,l,M,sz⟩:=s;dsimp only at H v sh f K;simp only[Hs.val];obtain⟨L,hi,E,F,G⟩:=info_parts Ed;have Q:∀(w:World) (a:Option Addr) (n c t r:Nat),(binOp .eql 75 (.slice a n c) (.slice none t r)).run prog w = .ok (.bool a.isNone) w:=λw a n c t r=>Lib.run_eql_slice_nil w _ _ a n c t r underlying75;cases sa with
 | none =>
  have B:=f rfl;subst B;have D:l=0:=ow;subst D;go_enter func132,ntmps132;exact abd
 | some ad =>
  have i:∀j u,(ba l sz)[j]?=some u->w.cell? (ad.add j)=some u/\(ad.add j).block<w.heap.size:=λj u hj=>ahc;have HN:=hid i;clear i sh f;go_enter func132,ntmps132;go_wp2_with(at_builtin;refine wpList_append_own _ rfl _ _ 75 rfl w.heap.size 115 L (.agg #[.int .i64 0,.int .i64 0,.int .i64 0,.int .i64 0]) 4 32 underlying75 hi E F G rfl dc _ _ _ rfl (World.ownsRow_made w #[] 0 nlr (Qxz _) rfl) ad l M (ba l sz) rfl ?qc1 ?qc2 ?qc3 ?qc4 ?qc5 ?qc6 ?_)
  case qc1=>rw[iz]
  case qc2 =>
   exact Ta
  case qc3=>exact ot l sz
  case qc4=>unfold maxLen;omega
  case qc5=>omega
  case qc6=>simp
  intro S w1 q g m;have J:Bw w w1:=((Below.refl _ w).alloc nlr _).grown g vq Oy;obtain⟨d,rfl,x,y,A⟩:=ct.ofOwns q m;clear q g m;have HR:Hid (d.n=l/\d.z=sz/\ct w.heap.size 115 w1 d/\gp w.heap.size w1 115 4 d.a d.c):=⟨x,y,A⟩;clear x y A;simp only[Hs.val]
  go_wp2
  go_ret;exact⟨d,rfl,⟨HR.o.1,λj _=>aa9,HR.o.2.2⟩,J⟩
structure Od where
 k:Int
 ls:Hs
def Od.val(x:Od):Value := .agg #[.int .i64 x.k,.slice x.ls.a x.ls.n x.ls.c]
def Dp(w:World)(a:Option Addr)(n:Nat)(z:Nat->Od):Prop :=
 ∀i,i<n->∃b o,a=some ⟨b,o,none⟩/\b<w.heap.size/\w.cell? ⟨b,o+i*2,none⟩=some (.int .i64 (z i).k) /\
  w.cell? ⟨b,o+i*2+1,none⟩=some (.slice (z i).ls.a (z i).ls.n (z i).ls.c)/\(z i).ls.At w
theorem Dp.below{a:Option Addr}{z:Nat->Od}(h:Dp w a n z)(c:Bw w w'):Dp w' a n z:=by
 intro i hi;obtain⟨b,o,j,d,e,f,g⟩:=h i hi;exact⟨b,o,j,Xzx d c.size,(c.cell (p:=⟨b,o+i*2,none⟩) d).trans e,(c.cell (p:=⟨b,o+i*2+1,none⟩) d).trans f,g.below c⟩
structure Os where
 a:Option Addr
 n:Nat
 c:Nat
 z:Nat->Od
def Os.val(s:Os):Value := .slice s.a s.n s.c
structure Os.At(w:World)(s:Os):Prop where
 le:s.n<=s.c
 cap:s.c<=maxLen
 ods:Dp w s.a s.n s.z
theorem Os.At.below{s:Os}(h:s.At w)(a:Bw w w'):s.At w':=⟨h.le,h.cap,h.ods.below a⟩
structure St where
 on:Sh
 os:Os
 hs:Hs
 ms:Hs
 si:Rw
 so:Rw
 sf:Rw
variable{s x y:St}
def St.cells(s:St):Array Value:=#[.slice s.on.a s.on.n s.on.c,.slice s.os.a s.os.n s.os.c,.slice s.hs.a s.hs.n s.hs.c,.slice s.ms.a s.ms.n s.ms.c,.slice s.si.a s.si.n s.si.c,.slice s.so.a s.so.n s.so.c,.slice s.sf.a s.sf.n s.sf.c]
def St.val(s:St):Value := .agg #[.slice s.on.a s.on.n s.on.c,.slice s.os.a s.os.n s.os.c,.slice s.hs.a s.hs.n s.hs.c,.slice s.ms.a s.ms.n s.ms.c,.slice s.si.a s.si.n s.si.c,.slice s.so.a s.so.n s.so.c,.slice s.sf.a s.sf.n s.sf.c]
structure St.At(w:World)(s:St):Prop where
 on:s.on.At w
 os:s.os.At w
 hs:s.hs.At w
 ms:s.ms.At w
 si:s.si.At w
 so:s.so.At w
 sf:s.sf.At w
theorem St.At.below(h:s.At w)(a:Bw w w'):s.At w':=⟨h.on.below a,h.os.below a,h.hs.below a,h.ms.below a,h.si.below a,h.so.below a,h.sf.below a⟩
def ur(o:Od):Bool := !inB o.ls.n 1 3
def gz(s:St):Bool:=decide (4<s.os.n)||decide (8<s.ms.n)||aw s.os.n (λi=>ur (s.os.z i))
def mq(p:Pl)(x:Hd):Bool := !inB x.o 0 ((p.ns:Int)-1) || !inB x.l 1 200 || !inB x.b 0 x.l || !inB x.n 0 x.l
def ni(p:Pl)(o:Od):Bool := !inB o.k 0 2||aw o.ls.n (λj=>mq p (o.ls.z j))
def kt(p:Pl)(s:St):Bool:=aw s.os.n (λi=>ni p (s.os.z i))
def jo(p:Pl)(s:St)(h:Hd):Bool := !inB h.o 0 ((s.os.n:Int)-1) || !inB h.l 0 (((s.os.z h.o.toNat).ls.n:Int)-1) || !inB h.b 0 ((p.nb:Int)-1)
def ig(p:Pl)(s:St):Bool := !(ip s.hs.n s.hs.z==0)||aw s.hs.n (λi=>jo p s (s.hs.z i))
def nt(p:Pl)(m:Hd):Bool := !inB m.o 0 ((p.ns:Int)-1) || !inB m.l 0 ((p.nb:Int)-1) || !inB m.b 0 ((p.nb:Int)-1)||(m.l==m.b) || !inB m.n 1 200
def mm(p:Pl)(s:St):Bool:=aw s.ms.n (λi=>nt p (s.ms.z i))
def nj(p:Pl)(l:Rw)(low:Int):Bool:=((l.n:Int) !=(p.ns:Int))||aw l.n (λi => !inB (l.z i) low 1048576)
def gt(p:Pl)(s:St):Bool:=nj p s.si 0||nj p s.so 0||nj p s.sf (-1048576)
def kf(s:St)(h:Hd):Int:=((s.os.z h.o.toNat).ls.z h.l.toNat).o
def ce(s:St)(b g:Int):Nat->Int
 | 0=>0
 | k+1=>ce s b g k+(if (s.hs.z k).b=b/\kf s (s.hs.z k)=g then(s.hs.z k).n else 0)
def bp(s:St)(b g:Int):Nat->Int
 | 0=>0
 | k+1=>bp s b g k+(if (s.ms.z k).l=b/\(s.ms.z k).o=g then(s.ms.z k).n else 0)
def aq(s:St)(b g:Nat):Int:=(s.on.r b).z g-ce s b g s.hs.n-bp s b g s.ms.n
def i7(p:Pl)(s:St)(g:Nat):Bool := !(cq (λi=>(s.on.r i).z g) s.on.n==s.si.z g-s.so.z g+s.sf.z g)||aw p.nb (λb=>decide (aq s b g<0))
def mh(p:Pl)(s:St):Bool:=aw p.ns (i7 p s)
def kx(x:Hd):Bool := !(x.b==x.l)
def dh(k:Int)(x:Hd)(kept:Int):Bool:=if k=0 then !(x.b==0) || !(x.n==0) || !(kept==0) else if k=2 then !(x.b+x.n==x.l) || !(kept==0) else !(x.b+x.n+kept==x.l)
def cp(s:St)(i:Nat):Bool:=((s.os.z i).k==1 && !aw (s.os.z i).ls.n (λj=>kx ((s.os.z i).ls.z j)))||aw (s.os.z i).ls.n (λj=>dh (s.os.z i).k ((s.os.z i).ls.z j) (keptS s.hs.z i j s.hs.n))
def me(s:St):Bool:=aw s.os.n (cp s)
def ag(p:Pl)(s:St):Int :=
 if fk p s.on=0 then(if gz s then 2 else if kt p s||ig p s||mm p s||gt p s then 1 else if mh p s||me s then 7 else 0) else fk p s.on
structure cu(p:Pl)(s:St):Prop where
 sh:yf p s.on
 sh0:fk p s.on=0
 os4:s.os.n<=4
 ms8:s.ms.n<=8
 lns:∀i,i<s.os.n->1<=(s.os.z i).ls.n/\(s.os.z i).ls.n<=3
 kind:∀i,i<s.os.n->0<=(s.os.z i).k/\(s.os.z i).k<=2
 line:∀i,i<s.os.n->∀j,j<(s.os.z i).ls.n->mq p ((s.os.z i).ls.z j)=false
 hold:aw s.hs.n (df s.hs.z)=false
 home:∀i,i<s.hs.n->jo p s (s.hs.z i)=false
 move:∀i,i<s.ms.n->nt p (s.ms.z i)=false
 sin:s.si.n=p.ns
 son:s.so.n=p.ns
 sfn:s.sf.n=p.ns
 sib:∀j,j<p.ns->0<=s.si.z j/\s.si.z j<=1048576
 sob:∀j,j<p.ns->0<=s.so.z j/\s.so.z j<=1048576
 sfb:∀j,j<p.ns -> -1048576<=s.sf.z j/\s.sf.z j<=1048576
theorem Mq{l:Rw}(h:nj p l W=false):l.n=p.ns/\∀j,j<p.ns->W<=l.z j/\l.z j<=1048576:=by
 unfold nj at h;rw[Xxq] at h;have a:l.n=p.ns:=by have b:(l.n:Int)=(p.ns:Int):=aa8;omega
 refine⟨a,λj c => ?_⟩;have:=dv h.2 j ow;simp only[Bool.not_eq_false'] at this;exact ar this
theorem formed(l:fk p s.on=0)(h1:gz s=false)(q:kt p s=false)(k:ig p s=false)(r:mm p s=false)(g:gt p s=false):cu p s:=by
 unfold gz at h1;unfold ig at k;unfold gt at g;simp only[Xxq,decide_eq_false_iff_not] at h1 k g;obtain⟨a,b⟩:=Mq g.1.1;obtain⟨c,d⟩:=Mq g.1.2;obtain⟨e,f⟩:=Mq g.2;have m:∀i,i<s.os.n->ni p (s.os.z i)=false:=dv q;refine⟨(yg l).2,l,ow,ow,λi hi => ?_,λi hi => ?_,λi hi j t => ?_,?_,dv k.2,dv r,a,c,e,b,d,f⟩
 .exact anq
 .have:=m i hi;simp only[ni,Xxq,Bool.not_eq_false'] at this;exact ar this.1
 .have:=m i hi;simp only[ni,Xxq] at this;exact dv this.2 j t
 have o:=k.1;cases u:aw s.hs.n (df s.hs.z)
 .rfl
 simp[ip,u] at o
theorem je(e:jo p s h=false):(0<=h.o/\h.o.toNat<s.os.n)/\(0<=h.l/\h.l.toNat<(s.os.z h.o.toNat).ls.n)/\0<=h.b/\h.b<p.nb:=by
 simp only[jo,Xxq,Bool.not_eq_false'] at e;obtain⟨⟨a,b⟩,c⟩:=e;have:=ar a;have:=ar b;have:=ar c;omega
theorem sl{m:Hd}(e:nt p m=false):(0<=m.o/\m.o<p.ns)/\(0<=m.l/\m.l<p.nb)/\(0<=m.b/\m.b<p.nb)/\¬m.l=m.b/\1<=m.n/\m.n<=200:=by
 simp only[nt,Xxq,Bool.not_eq_false',beq_eq_false_iff_ne,ne_eq] at e;obtain⟨⟨⟨⟨a,b⟩,c⟩,d⟩,f⟩:=e;have:=ar a;have:=ar b;have:=ar c;have:=ar f;omega
theorem fi{x:Hd}(e:mq p x=false):(0<=x.o/\x.o<p.ns)/\(1<=x.l/\x.l<=200)/\(0<=x.b/\x.b<=x.l)/\0<=x.n/\x.n<=x.l:=by
 simp only[mq,Xxq,Bool.not_eq_false'] at e;obtain⟨⟨⟨a,b⟩,c⟩,d⟩:=e;have:=ar a;have:=ar b;have:=ar c;have:=ar d;omega
theorem pd{s:St}{b g:Int}:∀{n:Nat},(∀j,j<n->1<=(s.hs.z j).n/\(s.hs.z j).n<=200)->0<=ce s b g n/\ce s b g n<=200*n
 | 0,_=>by simp[ce]
 | n+1,h=>by
  have c:=pd (b:=b) (g:=g) (n:=n) λj a=>h j ow;have:=h n ow;simp only[ce]
  split<;>omega
theorem lm{s:St}{b g:Int}:∀{n:Nat},(∀j,j<n->1<=(s.ms.z j).n/\(s.ms.z j).n<=200)->0<=bp s b g n/\bp s b g n<=200*n
 | 0,_=>by simp[bp]
 | n+1,h=>by
  have c:=lm (b:=b) (g:=g) (n:=n) λj a=>h j ow;have:=h n ow;simp only[bp]
  split<;>omega
theorem cu.holdN(f:cu p s):∀j,j<s.hs.n->1<=(s.hs.z j).n/\(s.hs.z j).n<=200:=λj a=>(cw (cd f.hold j a)).2.2.2
theorem cu.moveN(f:cu p s):∀j,j<s.ms.n->1<=(s.ms.z j).n/\(s.ms.z j).n<=200:=λj a=>(sl (f.move j a)).2.2.2.2
theorem cu.hs72(f:cu p s):s.hs.n<=72:=zv f.hold
structure am(p:Pl)(s:St):Prop where
 fm:cu p s
 goods:∀g,g<p.ns->i7 p s g=false
 orders:∀i,i<s.os.n->cp s i=false
theorem et(h:ag p s=0):am p s:=by
 unfold ag at h;by_cases h0:fk p s.on=0
 .rw[if_pos h0] at h;cases c:gz s
  .rw[c] at h;cases a:(kt p s||ig p s||mm p s||gt p s)
   .rw[a] at h;cases b:(mh p s||me s)
    .simp only[Xxq] at a b;exact⟨formed h0 c a.1.1.1 a.1.1.2 a.1.2 a.2,dv b.1,dv b.2⟩
    rw[b] at h;simp at h
   rw[a] at h;simp at h
  rw[c] at h;simp at h
 exact Tc
def ti(x:Od):List Value:=[.int .i64 x.k,.slice x.ls.a x.ls.n x.ls.c]
def ke:Nat->(Nat->Od)->List Value
 | 0,_=>[]
 | n+1,z=>ke n z++ti (z n)
theorem vk:∀(n:Nat) (z:Nat->Od),(ke n z).length=n*2
 | 0,_=>rfl
 | n+1,z=>by rw[ke,List.length_append,vk n z];simp[ti];omega
theorem M8:∀(n:Nat) (z:Nat->Od) (i c:Nat),i<n->c<2->(ke n z)[i*2+c]?=(ti (z i))[c]?
 | 0,_,i,c,hi,_=>absurd hi (Qzq _)
 | n+1,z,i,c,hi,hc=>by
  rw[ke];by_cases h:i=n
  .subst h;rw[List.getElem?_append_right (by rw[vk];omega),vk]
   congr 1
   omega
  rw[List.getElem?_append_left (by rw[vk];omega)];exact M8 n z i c ow hc
theorem tq{z:Nat->Od}(hi:i<n)(hc:c<2):(ke n z).getD (i*2+c) default=(ti (z i)).getD c default:=by
 simp only[List.getD,M8 n z i c hi hc]
theorem Vi:∀(n:Nat) (z:Nat->Od),∀u∈ke n z,u.oneCell'=true
 | 0,_,u,a=>by simp[ke] at a
 | n+1,z,u,a=>by
  rw[ke,List.mem_append] at a;rcases a with a|a
  .exact Vi n z u a
  simp only[ti,List.mem_cons,List.not_mem_nil,or_false] at a;rcases a with rfl|rfl<;>rfl
theorem Dp.news{o:Nat}{z:Nat->Od}(h:Dp w (some ⟨b,o,none⟩) n z):∀j u,(ke n z)[j]?=some u->w.cell? ((⟨b,o,none⟩:Addr).add j)=some u:=by
 intro j u a;have d:=(List.getElem?_eq_some_iff.1 a).1;rw[vk] at d;obtain⟨i,l,e,k,f,g,-⟩:=h (j/2) ow;simp only[co] at e;obtain⟨rfl,rfl⟩:=e;rw[Go.WideShapes.add_plain];have hd:j=j/2*2+j%2:=ow;rw[hd,M8 n z (j/2) (j%2) ow ow] at a;have c:j%2=0\/j%2=1:=ow;rcases c with c|c
 .rw[c] at a;simp[ti] at a;rw[<-a,<-f];congr 2;omega
 rw[c] at a;simp[ti] at a;rw[<-a,<-g];congr 2;omega
theorem Fl:(prog.info? 124).map (λi=>(i.zero,i.size,i.bytes))=some (some (.agg #[.int .i64 0,.slice none 0 0]),2,32):=ko
def adx(s:Os)(A:Nat)(w':World)(a':Option Addr)(c':Nat):Prop:=s.n<=c'/\c'<=maxLen/\(0<s.n->∃g,a'=some ⟨g,0,none⟩/\A<=g/\Blk w' g 124 (s.n*2) (λj=>(ke s.n s.z).getD j default))/\gp A w' 124 2 a' c'
theorem Ts(s:Os)(w:World)(hs:s.At w)(M:s.n<=1000):
  Calls prog 220 #[s.val] w λe w'=>∃a' d,e = .returned (.slice a' s.n d)/\adx s w.heap.size w' a' d/\Bw w w':=by
 obtain⟨F,x,sh⟩:=hs;obtain⟨sa,i,E,sz⟩:=s;dsimp only at F x sh M;simp only[Os.val];obtain⟨Q,hi,A,B,D⟩:=info_parts Fl;have S:∀(w:World) (a:Option Addr) (n c v d:Nat),(binOp .eql 32 (.slice a n c) (.slice none v d)).run prog w = .ok (.bool a.isNone) w:=λw a n c v d=>Lib.run_eql_slice_nil w _ _ a n c v d underlying32;cases sa with
 | none =>
  have z:i=0:=by
   rcases Nat.eq_zero_or_pos i with h|h
   .exact h
   obtain⟨b,o,r,_⟩:=sh 0 h;cases r
  subst z;go_enter func220,ntmps220
  go_wp2
  go_ret;exact⟨none,0,rfl,⟨Nat.le_refl _,Qxz _,λh=>absurd h (Nat.lt_irrefl _),Or.inl rfl⟩,Below.refl _ _⟩
 | some ad =>
  have HN:Hid (∀j u,(ke i sz)[j]?=some u->w.cell? (ad.add j)=some u/\(ad.add j).block<w.heap.size):=λj u hj=>by
   have t:=(List.getElem?_eq_some_iff.1 hj).1;rw[vk] at t;obtain⟨b,o,r,hb,-⟩:=sh 0 ow;simp only[Qkx] at r;subst r;exact⟨Dp.news sh j u hj,aj7⟩
  clear sh;go_enter func220,ntmps220;go_wp2_with(at_builtin;refine wpList_append_own _ rfl _ _ 32 rfl w.heap.size 124 Q (.agg #[.int .i64 0,.slice none 0 0]) 2 32 underlying32 hi A B D rfl dc _ _ _ rfl (World.ownsRow_made w #[] 0 nlr (Qxz _) rfl) ad i E (ke i sz) rfl ?qc1 ?qc2 ?qc3 ?qc4 ?qc5 ?qc6 ?_)
  case qc1=>rw[vk]
  case qc2 =>
   exact Ta
  case qc3=>exact Vi i sz
  case qc4=>unfold maxLen;omega
  case qc5=>omega
  case qc6=>simp
  intro T w1 f l q;have L:Bw w w1:=((Below.refl _ w).alloc nlr _).grown l vq Oy;obtain⟨g,d,rfl,H,J,K,y⟩:=Blk.ofOwns f q;have m:=gp.ofOwns f nlr;clear f l q;have G:Hid (adx ⟨some ad,i,E,sz⟩ w.heap.size w1 (some ⟨g,0,none⟩) d):=⟨H,J,λ_=>⟨g,rfl,K,y⟩,m⟩;clear y m
  go_wp2
  go_ret;exact⟨some ⟨g,0,none⟩,d,rfl,G.o,L⟩
structure kj(A:Nat)(w:World)(s:Os):Prop where
 le:s.n<=s.c
 cap:s.c<=maxLen
 list:0<s.n->∃g,s.a=some ⟨g,0,none⟩/\A<=g/\Blk w g 124 (s.n*2) (λj=>(ke s.n s.z).getD j default)
 lines:∀i,i<s.n->∃B,(s.z i).ls.a=some ⟨B,0,none⟩/\A<=B/\(s.z i).ls.n<=(s.z i).ls.c/\(s.z i).ls.c<=maxLen/\Blk w B 115 ((s.z i).ls.n*4) (λj=>(ba (s.z i).ls.n (s.z i).ls.z).getD j default)
 apart:∀i j,i<j->j<s.n->(s.z i).ls.a≠(s.z j).ls.a
 room:gp A w 124 2 s.a s.c
theorem kj.at{s:Os}(h:kj A w s):s.At w:=by
 refine⟨h.le,h.cap,λi hi => ?_⟩;obtain⟨g,l,hA,a⟩:=h.list ow;obtain⟨B,f,c,m,n,d⟩:=h.lines i hi;have b:=a.cell (j:=i*2) ow;have c1:=a.cell (j:=i*2+1) ow;have e0:=tq (z:=s.z) hi (show 0<2 by decide);have k:=tq (z:=s.z) hi (show 1<2 by decide);rw[Nat.add_zero] at e0;rw[e0] at b;rw[k] at c1;refine⟨g,0,l,a.lt,by rw[Nat.zero_add];exact b,by rw[Nat.zero_add];exact c1,?_⟩;exact ct.at (A:=A) (e:=115) ⟨m,n,(λe=>by rw[f] at e;cases e),λ_=>⟨B,f,c,d⟩⟩
def aeq(s t:Os):Prop:=s.n=t.n/\∀i,i<s.n->(s.z i).k=(t.z i).k/\(s.z i).ls.n=(t.z i).ls.n/\∀j,j<(s.z i).ls.n->(s.z i).ls.z j=(t.z i).ls.z j
def pb(s:Os)(k:Nat)(B C:Nat->Nat)(i:Nat):Od:=if i<k then ⟨(s.z i).k,⟨some ⟨B i,0,none⟩,(s.z i).ls.n,C i,(s.z i).ls.z⟩⟩ else s.z i
def awz(s:Os)(A:Nat)(a':Option Addr)(c' k:Nat)(wk:World):Prop:=gp A wk 124 2 a' c'/\∃B C:Nat->Nat,(0<s.n->∃g,a'=some ⟨g,0,none⟩/\A<=g/\Blk wk g 124 (s.n*2) (λj=>(ke s.n (pb s k B C)).getD j default)) /\
 (∀i,i<k->A<=B i/\(s.z i).ls.n<=C i/\C i<=maxLen/\Blk wk (B i) 115 ((s.z i).ls.n*4) (λj=>(ba (s.z i).ls.n (s.z i).ls.z).getD j default))/\(∀i j,i<j->j<k->B i<B j)
theorem A5:∀{n:Nat} {z z':Nat->Od},(∀i,i<n->ti (z i)=ti (z' i))->ke n z=ke n z'
 | 0,_,_,_=>rfl
 | n+1,z,z',h=>by rw[ke,ke,A5 (n:=n) λi hi=>h i ow,h n ow]
theorem aq8{s:Os}{k:Nat}{B C:Nat->Nat}{a:Nat}(q:k<s.n)(j:Nat)(p:j<s.n*2):
  (if j=k*2+1 then Value.slice (some ⟨b,0,none⟩) (s.z k).ls.n a else(ke s.n (pb s k B C)).getD j default)=(ke s.n (pb s (k+1) (λi=>if i=k then b else B i) (λi=>if i=k then a else C i))).getD j default:=by
 have hd:j=j/2*2+j%2:=ow;have c:j%2=0\/j%2=1:=ow;have hi:j/2<s.n:=ow;have f:=tq (z:=pb s k B C) hi (show j%2<2 by omega);have g:=tq (z:=pb s (k+1) (λi=>if i=k then b else B i) (λi=>if i=k then a else C i)) hi (show j%2<2 by omega);rw[<-hd] at f g;rw[f,g];by_cases d:j/2=k
 .have l:pb s k B C (j/2)=s.z k:=by unfold pb;rw[if_neg ow,d]
  have o:pb s (k+1) (λi=>if i=k then b else B i) (λi=>if i=k then a else C i) (j/2)=⟨(s.z k).k,⟨some ⟨b,0,none⟩,(s.z k).ls.n,a,(s.z k).ls.z⟩⟩:=by unfold pb;rw[if_pos ow];simp[d]
  rw[l,o];rcases c with c|c
  .rw[if_neg ow,c];rfl
  rw[if_pos ow,c];rfl
 rw[if_neg ow];have m:pb s k B C (j/2)=pb s (k+1) (λi=>if i=k then b else B i) (λi=>if i=k then a else C i) (j/2):=by
  unfold pb;by_cases e:j/2<k
  .rw[if_pos e,if_pos ow];simp[d]
  rw[if_neg e,if_neg ow]
 rw[m]
theorem T6(s:Os)(w:World)(hs:s.At w)(hn:s.n<=1000)(hl:∀i,i<s.n->1<=(s.z i).ls.n/\(s.z i).ls.n<=3):
  Calls prog 174 #[s.val] w λe w'=>∃Q:Os,e = .returned Q.val/\aeq Q s/\kj w.heap.size w' Q/\Bw w w':=by
 have HS:=hid hs;have HL:=hid hl;have bd:=hs.le;have al:=hs.cap;unfold maxLen at al;clear hs hl;simp only[Os.val];go_enter func174,ntmps174;go_wp2_with fail;refine(Ts s w HS.o hn).mono ?_;rintro e w1 ⟨a',c',rfl,y,X⟩;have t:=hid y;clear y;have c1:=t.o.1;have c2:=t.o.2.1;unfold maxLen at c2;go_wp2_with fail
 go_loopw [10] (λi wk=>∃k:Nat,k<=s.n/\i = .int .i64 k/\Hid (awz s w.heap.size a' c' k wk)/\Bw w wk) (λi _=>s.n-(intOf i).toNat)
 case atStart =>
  refine⟨0,Qxz _,rfl,⟨t.o.2.2.2,λ_=>0,λ_=>0,λh => ?_,λi hi=>absurd hi (Qzq _),λi j _ u=>absurd u (Qzq _)⟩,X⟩;obtain⟨g,T,U,e3⟩:=t.o.2.2.1 h;exact⟨g,T,U,e3.congr (λj u=>by rw[A5 (z':=pb s 0 (λ_=>0) (λ_=>0)) λi hi=>aki])⟩
 clear X;obtain⟨k,hk,rfl,HG,hB⟩:=hrel;by_cases E:k<s.n;rotate_left
 .have au:k=s.n:=ow;subst au;go_wp2_with fail;go_ret;obtain⟨d,B,C,A,r,q⟩:=HG.o;refine⟨⟨a',s.n,c',pb s s.n B C⟩,rfl,⟨rfl,λi hi => ?_⟩,⟨c1,t.o.2.1,A,λi hi => ?_,λi j D u => ?_,d⟩,hB⟩
  .have J:i<s.n:=hi;have m:pb s s.n B C i=⟨(s.z i).k,⟨some ⟨B i,0,none⟩,(s.z i).ls.n,C i,(s.z i).ls.z⟩⟩:=als;show(pb s s.n B C i).k=_/\(pb s s.n B C i).ls.n=_/\_;rw[m];exact⟨rfl,rfl,λj _=>by show(pb s s.n B C i).ls.z j=_;rw[m]⟩
  .have J:i<s.n:=hi;have m:pb s s.n B C i=⟨(s.z i).k,⟨some ⟨B i,0,none⟩,(s.z i).ls.n,C i,(s.z i).ls.z⟩⟩:=als;show ∃B',(pb s s.n B C i).ls.a=_/\_/\(pb s s.n B C i).ls.n<=(pb s s.n B C i).ls.c/\(pb s s.n B C i).ls.c<=maxLen/\Blk _ B' _ ((pb s s.n B C i).ls.n*4) (λj=>(ba (pb s s.n B C i).ls.n (pb s s.n B C i).ls.z).getD j default);rw[m];obtain⟨r1,r2,r3,r4⟩:=r i J;exact⟨B i,rfl,r1,r2,r3,r4⟩
  have aa:j<s.n:=u;show(pb s s.n B C i).ls.a≠(pb s s.n B C j).ls.a;unfold pb;rw[if_pos ow,if_pos aa];have:=q i j D aa;exact Te
 obtain⟨b,o,ad,hb,z0,z1,ac⟩:=(HS.o.below hB).ods k E;have qk:(0:Int)<=(k:Int):=ow;obtain⟨d,B,C,A,r,q⟩:=HG.o;have an:=hid d;obtain⟨g,H,hA,gb⟩:=A ow;have S:=qa3 r q H;have W:=hid gb;have a9:=HL.o k E;have x:=(Below.refl wr.heap.size wr).alloc nlr (.cells #[.int .i64 (s.z k).k,.slice (s.z k).ls.a (s.z k).ls.n (s.z k).ls.c] 124);have L:=ac.below x;rw[ad,H];clear ad H A r q gb HG ac d;go_wp2_with fail;refine(Mc (s.z k).ls _ L ow).mono ?_;rintro e V ⟨Q,rfl,y,Y⟩;obtain⟨bc,be,v,bf⟩:=Q;obtain⟨T,U,⟨o1,o2,o3,o4⟩,-⟩:=y;dsimp only at T U o1 o2 o3 o4;subst T;obtain⟨F,e3,a7,kB⟩:=o4 ow;subst e3;have M:Blk V F 115 ((s.z k).ls.n*4) (λj=>(ba (s.z k).ls.n (s.z k).ls.z).getD j default):=kB.congr (λj u=>by rw[pn U]);have l:=x.trans (Y.mono x.size);have f:=W.o.below l;have bb:=x.size;have hf:=f.frozen (k*2+1);have hc:=f.cell (j:=k*2+1) ow;rw[tq (z:=pb s k B C) E (show 1<2 by decide)] at hc;have hm:pb s k B C k=s.z k:=aki;rw[hm] at hc;have a6:V.cell? ⟨g,k*2+1,none⟩=some (.slice (s.z k).ls.a (s.z k).ls.n (s.z k).ls.c):=hc;have a8:=f.lt;have G:=hB.trans (l.mono hB.size);have KB:=f.set (k*2+1) (.slice (some ⟨F,0,none⟩) (s.z k).ls.n v);have HN:Hid (awz s w.heap.size (some ⟨g,0,none⟩) c' (k+1) (V.setCell ⟨g,k*2+1,none⟩ (.slice (some ⟨F,0,none⟩) (s.z k).ls.n v))/\Bw w (V.setCell ⟨g,k*2+1,none⟩ (.slice (some ⟨F,0,none⟩) (s.z k).ls.n v))):=by
  refine⟨⟨(by have h:=(an.o.below l).set g (k*2+1) (.slice (some ⟨F,0,none⟩) (s.z k).ls.n v);rw[S.o.2.2] at h;exact h),λi=>if i=k then F else B i,λi=>if i=k then v else C i,λ_=>⟨g,rfl,hA,KB.congr (λj u=>aq8 E j u)⟩,λi hi => ?_,λi j D u => ?_⟩,G.setCell (p:=⟨g,k*2+1,none⟩) hA _⟩
  .dsimp only;by_cases K:i=k
   .subst K;rw[if_pos rfl,if_pos rfl];exact⟨Jr,o1,o2,M.other (a:=⟨g,i*2+1,none⟩) (Blk.ne2 M f dc) _⟩
   rw[if_neg K,if_neg K];obtain⟨r1,r2,r3,r4⟩:=S.o.1 i ow;have r5:=r4.below l;exact⟨r1,r2,r3,r5.other (a:=⟨g,k*2+1,none⟩) (Blk.ne2 r5 f dc) _⟩
  dsimp only;by_cases ab:j=k
  .subst ab;rw[if_neg ow,if_pos rfl];have:=(S.o.1 i D).2.2.2.lt;omega
  rw[if_neg ow,if_neg ab];exact S.o.2.1 i j D ow
 clear KB kB M f hc hm l W Y L G;simp only[Hs.val];go_wp2_with fail;go_roundw
 case rel=>exact⟨k+1,ow,vo,HN.o.1,HN.o.2⟩
 case measure=>simp[intOf];omega
def ay9:Nat->Bin
 | 0=>⟨false,100,0,0⟩
 | 1=>⟨true,30,4,8⟩
 | _=>⟨false,60,0,0⟩
def ay8:Nat->Int
 | 0=>2
 | _=>3
def uf(g1 g2:Nat):Pl:=⟨some ⟨g1,0,none⟩,3,3,ay9,some ⟨g2,0,none⟩,2,2,ay8⟩
def avo:Nat->Value:=λj=>(#[.bool false,.int .i64 100,.int .i64 0,.int .i64 0,.bool true,.int .i64 30,.int .i64 4,.int .i64 8,.bool false,.int .i64 60,.int .i64 0,.int .i64 0]:Array Value).getD j default
def avp:Nat->Value:=λj=>(#[.int .i64 2,.int .i64 3]:Array Value).getD j default
theorem aym{d:Nat}(a:Blk w c 82 12 avo)(e:Blk w d 3 2 avp):(uf c d).At w:=by
 refine⟨by simp[uf],by simp[uf,maxLen],λi hi => ?_,by simp[uf],by simp[uf,maxLen],λi hi => ?_⟩
 .have b:i<3:=hi;refine⟨c,0,rfl,a.lt,?_⟩
  match i,b with
  | 0,_=>exact⟨a.k 0,a.k 1,a.k 2,a.k 3⟩
  | 1,_=>exact⟨a.k 4,a.k 5,a.k 6,a.k 7⟩
  | 2,_=>exact⟨a.k 8,a.k 9,a.k 10,a.k 11⟩
 have b:i<2:=hi;refine⟨d,0,rfl,e.lt,?_⟩
 match i,b with
 | 0,_=>exact e.k 0
 | 1,_=>exact e.k 1
theorem ar3(w:World):
  Calls prog 17 #[] w λe w'=>∃g1 g2,e = .returned (uf g1 g2).val/\w.heap.size<=g1/\g1≠g2/\Blk w' g1 82 12 avo/\Blk w' g2 3 2 avp/\Bw w w':=by
 go_enter func17,ntmps17
 go_wp2
 refine Xzq (v:=(uf (w.heap.size+1) (w.heap.size+1+1)).val) (by simp[results,results17,go_sem,uf,Pl.val]) rfl ?_;refine⟨w.heap.size+1,w.heap.size+1+1,rfl,ow,ow,Blk.alloc (Blk.mk' vq rfl) _,Blk.mk' vq rfl,?_⟩;exact((brf.alloc nlr _).alloc vq _).alloc oq _
def onZ:Nat->Nat->Int
 | 0,0=>5
 | 1,0=>1
 | 1,1=>2
 | _,_=>0
def onS(g:Nat)(n:Nat):Sh:=⟨some ⟨g+3,0,none⟩,n,3,λi=>⟨some ⟨g+i,0,none⟩,2,2,onZ i⟩⟩
open Go.Sort
theorem Blk.ne{a:TypeId}{d:Nat->Value}(h:Blk w g e n f)(h':Blk w b a i d)(he:e≠a):g≠b:=ans
theorem ajj(s:Sh)(w:World)(hs:s.At w)(hn:s.n<=6)(ax:1<=s.n)(hr:∀i,i<s.n->1<=(s.r i).n/\(s.r i).n<=3):
  Calls prog 160 #[s.val] w λe w'=>∃(g c:Nat) (G C:Nat->Nat),e = .returned (.slice (some ⟨g,0,none⟩) s.n c)/\w.heap.size<=g/\s.n<=c/\c<=maxLen /\
   Blk w' g 23 s.n (λi => .slice (some ⟨G i,0,none⟩) (s.r i).n (C i)) /\
   (∀i,i<s.n->w.heap.size<=G i/\(s.r i).n<=C i/\C i<=maxLen/\Blk w' (G i) 3 (s.r i).n (λj => .int .i64 ((s.r i).z j))) /\
   (∀i j,i<j->j<s.n->G i<G j)/\Bw w w':=by
 obtain⟨a6,Q,rows⟩:=hs;obtain⟨s0,W,sc,a⟩:=s;dsimp only at a6 Q rows hn hr ax;unfold maxLen at Q;simp only[Sh.val];obtain⟨i0,hi,a2,a3,a4⟩:=info_parts Y5;obtain⟨i1,hj,az,a0,a1⟩:=info_parts Ad;go_enter func160,ntmps160;go_wp2_with fail
 go_loopw [3,4] (λv i wk=>∃k:Nat,k<=W/\i = .int .i64 k/\(∃(G C:Nat->Nat),wk.ownsRow w.heap.size 23 1 v k ((List.range k).map λi=>Value.slice (some ⟨G i,0,none⟩) (a i).n (C i)) /\
   (∀i,i<k->w.heap.size<=G i/\(a i).n<=C i/\C i<=maxLen/\Blk wk (G i) 3 (a i).n (λj => .int .i64 ((a i).z j))) /\
   (∀i j,i<j->j<k->G i<G j))/\Bw w wk) (λ_ i _=>W-(intOf i).toNat)
 case atStart=>exact⟨0,Qxz _,rfl,⟨λ_=>0,λ_=>0,World.ownsRow_nil _ _ _ _,λi hi=>absurd hi (Qzq _),λi j _ hj=>absurd hj (Qzq _)⟩,Below.refl _ _⟩
 obtain⟨k,hk,rfl,H,hB⟩:=hrel;by_cases ad:k<W;rotate_left
 .go_wp2_with fail;go_ret;have aw:k=W:=ow;subst aw;obtain⟨G,C,ho,t,E⟩:=H;have hv:∃g c,u3 = .slice (some ⟨g,0,none⟩) k c:=aob;obtain⟨g',al,rfl⟩:=hv;obtain⟨g,c,ae,h1,h2,h3,F⟩:=Blk.ofOwns ho vq;rw[Nat.mul_one] at F;simp only[co,Value.slice.injEq,true_and] at ae;obtain⟨rfl,rfl⟩:=ae;exact⟨g',al,G,C,rfl,h3,h1,h2,F.congr (λj hj=>He),t,E,hB⟩
 obtain⟨b,o,rfl,hb,z0,aq⟩:=(rows.below hB) k ad;have bk:=hr k ad;obtain⟨bl,bh,ints⟩:=aq;obtain⟨b1,o1,ha,bj,y0⟩:=ints 0 ow;rw[ha] at z0 ints;clear y0 ha;have HG:Hid _:=H;clear H;have m1:(0:Int)<=(k:Int):=ow;go_wp2_with(at_builtin;refine wpList_append_own _ rfl (.tmp 12) (.tmp 16) 23 rfl wr.heap.size 3 i1 (.int .i64 0) 1 8 underlying23 hj az a0 a1 rfl dc _ _ _ rfl (World.ownsRow_made wr #[] 0 nlr (Qxz _) rfl) ⟨b1,o1,none⟩ (a k).n (a k).c ((List.range (a k).n).map λj=>Value.int .i64 ((a k).z j)) rfl ?qc1 ?qc2 ?qc3 ?qc4 ?qc5 ?qc6 ?_)
 case qc1=>simp
 case qc2 =>
  intro j u hj;have ac:j<(a k).n:=ab8;obtain⟨b',o',he,ar,U⟩:=ints j ac;simp only[co] at he;obtain⟨rfl,rfl⟩:=he;rw[Go.WideShapes.add_plain];rw[((Below.refl wr.heap.size wr).alloc nlr _).cell (p:=⟨b1,o1+j,none⟩) ar,U];simp[ac] at hj;rw[hj]
 case qc3=>intro u hu;obtain⟨x,_,rfl⟩:=List.mem_map.1 hu;rfl
 case qc4=>unfold maxLen;omega
 case qc5=>omega
 case qc6=>simp
 intro v' w1 L A K;obtain⟨g,T,rfl,h1,h2,h3,F⟩:=Blk.ofOwns L K;rw[Nat.mul_one] at F;have d:Bw wr w1:=((Below.refl _ wr).alloc nlr _).grown A vq Oy;have h5:Blk w1 g 3 (a k).n (λj => .int .i64 ((a k).z j)):=F.congr (λj hj=>He);clear L A K ints z0 F;obtain⟨G,C,ho,t,E⟩:=HG.o;have D:w1.ownsRow w.heap.size 23 1 u3 k ((List.range k).map λi=>Value.slice (some ⟨G i,0,none⟩) (a i).n (C i)):=ho.kept (row:=none) ⟨d.os,d.tape,d.output,d.size,λj hj _=>d.block j hj⟩ (by cases h:u3.ownBlock<;>simp);have HR:Hid _:=And.intro t E;clear ho t E HG;go_wp2_with(at_builtin;refine wpList_append_own _ rfl (.tmp 11) (.tmp 18) 31 rfl w.heap.size 23 i0 (.slice none 0 0) 1 24 underlying31 hi a2 a3 a4 rfl dc _ _ _ rfl (D.alloc _) ⟨w1.heap.size,0,none⟩ 1 1 [.slice (some ⟨g,0,none⟩) (a k).n T] rfl rfl ?c1 ?c2 ?c3 ?c4 ?c5 ?_)
 case c1 =>
  exact ab2
 case c2=>exact Td
 case c3=>unfold maxLen;omega
 case c4=>omega
 case c5=>have:=hB.size;have:=d.size;simp;omega
 intro v2 w2 l m V;have y:=hB.trans (d.mono hB.size);have J:=D.lt;have ao:Bw w w2:=(y.alloc (by have:=y.size;omega) _).grown m (by have:=y.size;simp;omega) (λq M=>(J q M).1);have keep:∀q f n',Blk w1 q 3 n' f->Blk w2 q 3 n' f:=λq f n' hb=>by
  refine(hb.alloc _).grown m ?_;intro M;rcases D.2 with⟨rfl,_⟩|⟨g2,cap2,cur2,rfl,_,X,a9⟩
  .simp[Value.ownBlock] at M
  simp only[Value.ownBlock,Qkx] at M;subst M;obtain⟨c3,au,_⟩:=hb;rw[au] at X;cases X
 have S:=keep _ _ _ h5;have HK:Hid _:=And.intro l (And.intro S keep);clear l m V S keep D h5 J;go_wp2_with fail;go_roundw
 case measure=>simp[intOf];omega
 obtain⟨l,S,keep⟩:=HK.o;obtain⟨t,E⟩:=HR.o;refine⟨k+1,ow,vo,⟨λi=>if i=k then g else G i,λi=>if i=k then T else C i,?_,?_,?_⟩,ao⟩
 .have e:(List.range (k+1)).map (λi=>Value.slice (some ⟨if i=k then g else G i,0,none⟩) (a i).n (if i=k then T else C i))=((List.range k).map λi=>Value.slice (some ⟨G i,0,none⟩) (a i).n (C i))++[.slice (some ⟨g,0,none⟩) (a k).n T]:=amj;rw[e];exact l
 .intro i hi;by_cases aa:i=k
  .subst aa;simp only[if_true];exact⟨Jr,h1,h2,S⟩
  simp only[aa,if_false];have B:i<k:=ow;exact⟨(t i B).1,(t i B).2.1,(t i B).2.2.1,keep _ _ _ ((t i B).2.2.2.below d)⟩
 intro i j Y hj;by_cases ab:j=k
 .subst ab;have:=(t i Y).2.2.2.lt;simp[show ¬i=j by omega];omega
 simp[ab,show ¬i=k by omega,E i j Y ow]
end Go.Proofs.YtjgckphgagdpaaaGreatDoor
