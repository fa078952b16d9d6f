/- Texts that were built one behind the other, joined; what LogRight does not reach is left out. -/
import Derived.Test.YtbcacebifpagpagGreatK3LogRight
import Derived.Recover
import Derived.RegionTactic
import Derived.ChangeAlike
import Derived.BigRegion
import Derived.RangeFuncBox
import Derived.RangeFuncLeaves
import Derived.Shelf.Abstract
import Derived.WalkKit
import Derived.OwnWalkIn
import Derived.TacticsInMore
import Derived.LoopNIn
import Derived.LoopIn
import Derived.Maps.AppendAt
import Derived.RangeFuncNested
import Derived.ArgAppend
import Derived.Lib.QuietBelowIn
import Derived.Sort.BigQuietIn
import Derived.Scope
namespace Go.Proofs.YtbcacebifpagpagGreat
open Go.RowKit Go.Shelf
set_option linter.unusedVariables false
def zx (j:Nat):Value:=(#[.int .i64 0,.int .i64 0,.int .i64 0,.int .i64 0,.int .i64 0,.slice none 0 0]:Array Value).getD j default
theorem assert_errno (w:World):(Instr.typeAssert (.iface 32 (.int .i64 1)) 20 32 false).run Tryz.prog w = .ok (.int .i64 1) w:=by
 unfold Instr.typeAssert
 simp [run_underlying Tryz.underlying32,Sem.run_bind,Sem.run_pure,Result.andThen]
set_option maxRecDepth 100000 in
set_option maxHeartbeats 4000000 in
theorem caught (X E:Nat) (fx fe:Nat→Value) (w:World) (hX:Blk w X 47 6 fx) (hE:Blk w E 32 1 fe) (older:List PanicEntry) :
  CallsD Tryz.prog 86 #[.pointer (some ⟨X,0,none⟩),.pointer (some ⟨E,0,none⟩)] (.panicking ({ v := .iface 32 (.int .i64 1),recovered:=false } :: older)) w fun e u' w' =>
   e = .returned (.tuple #[])∧u' = .panicking ({ v := .iface 32 (.int .i64 1),recovered:=true } :: older)∧Blk w' X 47 6 zx∧Blk w' E 32 1 (fun _ => .int .i64 1)∧∀ B,B≤X→B≤E→Below B w w':=by
 have xl:=hX.lt
 have el:=hE.lt
 have xc0:=hX.cell (j:=0) (by decide)
 have xf0:=hX.frozen 0
 have xc1:=hX.cell (j:=1) (by decide)
 have xf1:=hX.frozen 1
 have xc2:=hX.cell (j:=2) (by decide)
 have xf2:=hX.frozen 2
 have xc3:=hX.cell (j:=3) (by decide)
 have xf3:=hX.frozen 3
 have xc4:=hX.cell (j:=4) (by decide)
 have xf4:=hX.frozen 4
 have xc5:=hX.cell (j:=5) (by decide)
 have xf5:=hX.frozen 5
 have ec:=hE.cell (j:=0) (by decide)
 have ef:=hE.frozen 0
 have hne:X≠E:=Blk.ne2 hX hE (by decide)
 have hta:=assert_errno
 have K1:=Blk.other (((((((hX.set 0 (.int .i64 0)).set 1 (.int .i64 0)).set 2 (.int .i64 0)).set 3 (.int .i64 0)).set 4 (.int .i64 0)).set 5 (.slice none 0 0))) (a:=⟨E,0,none⟩) hne (.int .i64 1)
 have K2:=K1.congr (f':=zx) (fun j hj=>by match j,hj with | 0,_ | 1,_ | 2,_ | 3,_ | 4,_ | 5,_=>rfl)
 have K3:=Blk.set ((((((hE.other (a:=⟨X,0,none⟩) hne.symm (.int .i64 0)).other (a:=⟨X,1,none⟩) hne.symm (.int .i64 0)).other (a:=⟨X,2,none⟩) hne.symm (.int .i64 0)).other (a:=⟨X,3,none⟩) hne.symm (.int .i64 0)).other (a:=⟨X,4,none⟩) hne.symm (.int .i64 0)).other (a:=⟨X,5,none⟩) hne.symm (.slice none 0 0)) 0 (.int .i64 1)
 have K4:=K3.congr (f':=fun _ => .int .i64 1) (fun j hj=>by match j,hj with | 0,_=>rfl)
 have K5:=fun (B:Nat) (h1:B≤X) (h2:B≤E)=>((((((((Below.refl B w).setCell (p:=⟨X,0,none⟩) h1 (.int .i64 0)).setCell (p:=⟨X,1,none⟩) h1 (.int .i64 0)).setCell (p:=⟨X,2,none⟩) h1 (.int .i64 0)).setCell (p:=⟨X,3,none⟩) h1 (.int .i64 0)).setCell (p:=⟨X,4,none⟩) h1 (.int .i64 0)).setCell (p:=⟨X,5,none⟩) h1 (.slice none 0 0)).setCell (p:=⟨E,0,none⟩) h2 (.int .i64 1))
 have HK:Hid (Blk _ X _ 6 _∧Blk _ E _ 1 _∧∀ B,B≤X→B≤E→Below B w _):=⟨K2,K4,K5⟩
 clear K1 K2 K3 K4 K5 hX hE
 refine callsD_of_wpS Tryz.func86 rfl fun c₀ cs hu => ?_
 apply wpS_seq
 apply wpS_region
 simp [wpOpsS,go_sem,recoverD,hu,Tryz.ntmps86,Exit.thenS]
 refine wpS_of_wp ?_
 simp only [Array.replicate_succ,Array.replicate_zero,List.push_toArray,List.setIfInBounds_toArray,List.set_cons_succ,List.set_cons_zero,List.append_toArray,List.nil_append,List.cons_append]
 go_wp2_with fail
 go_region
 obtain ⟨K2,K4,K5⟩:=HK.out
 refine ⟨rfl,_,rfl,.tuple #[],by simp [results,Tryz.results86],rfl,rfl,?_,?_,fun B h1 h2 => ?_⟩
 ·exact Blk.below K2 ((Below.refl _ _).drew)
 ·exact Blk.below K4 ((Below.refl _ _).drew)
 ·exact (K5 B h1 h2).drew
theorem idle (X E:Nat) (w:World) :
  CallsD Tryz.prog 86 #[.pointer (some ⟨X,0,none⟩),.pointer (some ⟨E,0,none⟩)] .returning w fun e u' w'=>e = .returned (.tuple #[])∧u' = .returning∧w'=w:=by
 refine callsD_of_wpS Tryz.func86 rfl fun c₀ cs hu => ?_
 apply wpS_seq
 apply wpS_region
 simp [wpOpsS,go_sem,recoverD,hu,Tryz.ntmps86,Exit.thenS]
 refine wpS_of_wp ?_
 simp only [Array.replicate_succ,Array.replicate_zero,List.push_toArray,List.setIfInBounds_toArray,List.set_cons_succ,List.set_cons_zero,List.append_toArray,List.nil_append,List.cons_append]
 go_wp2_with fail
 cases c₀
 simp_all [bodyPostS,results,Tryz.results86]
def ActRead (R:Nat) (t:List UInt8) (k:Nat) (w w':World) (e:Ending):Prop :=
 ((rdOK t k=true∧∃ ls:Hs,e = .returned (.tuple #[(Ax.mk (rdN t k) (rdN t (k+1)) (rdN t (k+2)) (rdN t (k+3)) (rdN t (k+4)) ls).val,.int .i64 0])∧ls.n=rdC t k∧(∀ j,j<ls.n→ls.z j=rdL t (k+6+4*j))∧OwnH w.heap.size 59 w' ls∧RdAt R w' t (k+rdSize t k)) ∨
  (rdOK t k=false∧e = .returned (.tuple #[.agg #[.int .i64 0,.int .i64 0,.int .i64 0,.int .i64 0,.int .i64 0,.slice none 0 0],.int .i64 1])))∧Bt R w w'
theorem IntC.ofBlk {w:World} {b n j:Nat} {e:TypeId} {f:Nat→Value} (h:Blk w b e n f) (hj:j<n) {z:Int} (hz:f j = .int .i64 z):IntC w ⟨b,j,none⟩:=⟨⟨z,(h.cell hj).trans (by rw [hz])⟩,h.frozen j,h.lt⟩
def hx (t:List UInt8) (k:Nat) (v:Value) (j:Nat):Value:=(#[.int .i64 (rdN t k),.int .i64 (rdN t (k+1)),.int .i64 (rdN t (k+2)),.int .i64 (rdN t (k+3)),.int .i64 (rdN t (k+4)),v]:Array Value).getD j default
def headP (X L:Nat):List Addr:=[⟨X,0,none⟩,⟨X,1,none⟩,⟨X,2,none⟩,⟨X,3,none⟩,⟨X,4,none⟩,⟨L,0,none⟩]
def lineP (B:Nat):List Addr:=[⟨B,0,none⟩,⟨B,1,none⟩,⟨B,2,none⟩,⟨B,3,none⟩]
theorem head_read {R X L k:Nat} {t:List UInt8} {w:World} {fl:Nat→Value} (hX:Blk w X 47 6 zx) (hL:Blk w L 3 1 fl) (hne:X≠L) (hXR:X≠R) (hLR:L≠R) :
  Blk (getW R t (headP X L) k w) X 47 6 (hx t k (.slice none 0 0))∧Blk (getW R t (headP X L) k w) L 3 1 (fun _ => .int .i64 (rdN t (k+5))):=by
 simp only [headP,getW]
 refine ⟨?_,?_⟩
 ·have h0:=(hX.set 0 (.int .i64 (rdN t k))).other (a:=⟨R,1,none⟩) hXR (.int .i64 ((k+1:Nat):Int))
  have h1:=(h0.set 1 (.int .i64 (rdN t (k+1)))).other (a:=⟨R,1,none⟩) hXR (.int .i64 ((k+1+1:Nat):Int))
  have h2:=(h1.set 2 (.int .i64 (rdN t (k+1+1)))).other (a:=⟨R,1,none⟩) hXR (.int .i64 ((k+1+1+1:Nat):Int))
  have h3:=(h2.set 3 (.int .i64 (rdN t (k+1+1+1)))).other (a:=⟨R,1,none⟩) hXR (.int .i64 ((k+1+1+1+1:Nat):Int))
  have h4:=(h3.set 4 (.int .i64 (rdN t (k+1+1+1+1)))).other (a:=⟨R,1,none⟩) hXR (.int .i64 ((k+1+1+1+1+1:Nat):Int))
  have h5:=(h4.other (a:=⟨L,0,none⟩) hne (.int .i64 (rdN t (k+1+1+1+1+1)))).other (a:=⟨R,1,none⟩) hXR (.int .i64 ((k+1+1+1+1+1+1:Nat):Int))
  exact h5.congr (fun j hj=>by match j,hj with | 0,_ | 1,_ | 2,_ | 3,_ | 4,_ | 5,_=>rfl)
 ·have h0:=(hL.other (a:=⟨X,0,none⟩) hne.symm (.int .i64 (rdN t k))).other (a:=⟨R,1,none⟩) hLR (.int .i64 ((k+1:Nat):Int))
  have h1:=(h0.other (a:=⟨X,1,none⟩) hne.symm (.int .i64 (rdN t (k+1)))).other (a:=⟨R,1,none⟩) hLR (.int .i64 ((k+1+1:Nat):Int))
  have h2:=(h1.other (a:=⟨X,2,none⟩) hne.symm (.int .i64 (rdN t (k+1+1)))).other (a:=⟨R,1,none⟩) hLR (.int .i64 ((k+1+1+1:Nat):Int))
  have h3:=(h2.other (a:=⟨X,3,none⟩) hne.symm (.int .i64 (rdN t (k+1+1+1)))).other (a:=⟨R,1,none⟩) hLR (.int .i64 ((k+1+1+1+1:Nat):Int))
  have h4:=(h3.other (a:=⟨X,4,none⟩) hne.symm (.int .i64 (rdN t (k+1+1+1+1)))).other (a:=⟨R,1,none⟩) hLR (.int .i64 ((k+1+1+1+1+1:Nat):Int))
  have h5:=(h4.set 0 (.int .i64 (rdN t (k+1+1+1+1+1)))).other (a:=⟨R,1,none⟩) hLR (.int .i64 ((k+1+1+1+1+1+1:Nat):Int))
  exact h5.congr (fun j hj=>by match j,hj with | 0,_=>rfl)
theorem line_read {R B k:Nat} {t:List UInt8} {w:World} {f:Nat→Value} (hB:Blk w B 59 4 f) (hR:B≠R) :
  Blk (getW R t (lineP B) k w) B 59 4 (fun j=>(hdCells (rdL t k)).getD j default):=by
 simp only [lineP,getW]
 have h0:=(hB.set 0 (.int .i64 (rdN t k))).other (a:=⟨R,1,none⟩) hR (.int .i64 ((k+1:Nat):Int))
 have h1:=(h0.set 1 (.int .i64 (rdN t (k+1)))).other (a:=⟨R,1,none⟩) hR (.int .i64 ((k+1+1:Nat):Int))
 have h2:=(h1.set 2 (.int .i64 (rdN t (k+1+1)))).other (a:=⟨R,1,none⟩) hR (.int .i64 ((k+1+1+1:Nat):Int))
 have h3:=(h2.set 3 (.int .i64 (rdN t (k+1+1+1)))).other (a:=⟨R,1,none⟩) hR (.int .i64 ((k+1+1+1+1:Nat):Int))
 exact h3.congr (fun j hj=>by match j,hj with | 0,_ | 1,_ | 2,_ | 3,_=>rfl)
def closureD (X:Nat):Deferred:={ target := .fn (.func 86) #[.pointer (some ⟨X,0,none⟩),.pointer (some ⟨X+1,0,none⟩)],args:=#[] }
theorem act_fails {R k:Nat} {t:List UInt8} {w w1:World} {tmps:Array Value} (h2:tmps.getD 2 undef = .pointer (some ⟨w.heap.size,0,none⟩)) (h3:tmps.getD 3 undef = .pointer (some ⟨w.heap.size+1,0,none⟩))
  (hX:Shp w1 w.heap.size 47 6) (hE:Shp w1 (w.heap.size+1) 32 1) (hB:Bt R w w1) (hno:rdOK t k=false) :
  Leaves Tryz.prog Tryz.f40 tmps (fun e w'=>ActRead R t k w w' e) [closureD w.heap.size] (.panicking [{ v := .iface 32 (.int .i64 1),recovered:=false }]) w1:=by
 rw [Array.getD_eq_getD_getElem?] at h2 h3
 obtain ⟨fx,hX⟩:=hX
 obtain ⟨fe,hE⟩:=hE
 refine leaves_cons (f:=86) (args:=#[.pointer (some ⟨w.heap.size,0,none⟩),.pointer (some ⟨w.heap.size+1,0,none⟩)]) (by simp) (by simp [go_sem]) ?_
 refine (caught w.heap.size (w.heap.size+1) fx fe w1 hX hE []).mono ?_
 rintro e u' w'' ⟨rfl,rfl,kx,ke,kb⟩
 have x0:w''.cell? ⟨w.heap.size,0,none⟩=some (.int .i64 0):=kx.cell (j:=0) (by decide)
 have x1:w''.cell? ⟨w.heap.size,1,none⟩=some (.int .i64 0):=kx.cell (j:=1) (by decide)
 have x2:w''.cell? ⟨w.heap.size,2,none⟩=some (.int .i64 0):=kx.cell (j:=2) (by decide)
 have x3:w''.cell? ⟨w.heap.size,3,none⟩=some (.int .i64 0):=kx.cell (j:=3) (by decide)
 have x4:w''.cell? ⟨w.heap.size,4,none⟩=some (.int .i64 0):=kx.cell (j:=4) (by decide)
 have x5:w''.cell? ⟨w.heap.size,5,none⟩=some (.slice none 0 0):=kx.cell (j:=5) (by decide)
 have e0:w''.cell? ⟨w.heap.size+1,0,none⟩=some (.int .i64 1):=ke.cell (j:=0) (by decide)
 refine ⟨.tuple #[.agg #[.int .i64 0,.int .i64 0,.int .i64 0,.int .i64 0,.int .i64 0,.slice none 0 0],.int .i64 1],?_,Or.inr ⟨hno,rfl⟩,hB.thenB (kb _ (Nat.le_refl _) (by omega))⟩
 simp [results,Tryz.results40,go_sem,h2,h3,x0,x1,x2,x3,x4,x5,e0]
theorem act_returns {R k:Nat} {t:List UInt8} {w w1:World} {tmps:Array Value} (h2:tmps.getD 2 undef = .pointer (some ⟨w.heap.size,0,none⟩)) (h3:tmps.getD 3 undef = .pointer (some ⟨w.heap.size+1,0,none⟩)) {a:Option Addr} {c:Nat}
  (hX:Blk w1 w.heap.size 47 6 (hx t k (.slice a (rdC t k) c))) (hE:Blk w1 (w.heap.size+1) 32 1 (fun _ => .int .i64 0)) (hB:Bt R w w1) (hyes:rdOK t k=true) (hO:w1.ownsRow w.heap.size 59 4 (.slice a (rdC t k) c) (rdC t k) (flatH (rdC t k) (fun j=>rdL t (k+6+4*j)))) (hR:RdAt R w1 t (k+rdSize t k)) :
  Leaves Tryz.prog Tryz.f40 tmps (fun e w'=>ActRead R t k w w' e) [closureD w.heap.size] .returning w1:=by
 rw [Array.getD_eq_getD_getElem?] at h2 h3
 refine leaves_cons (f:=86) (args:=#[.pointer (some ⟨w.heap.size,0,none⟩),.pointer (some ⟨w.heap.size+1,0,none⟩)]) (by simp) (by simp [go_sem]) ?_
 refine (idle w.heap.size (w.heap.size+1) w1).mono ?_
 rintro e u' w'' ⟨rfl,rfl,rfl⟩
 obtain ⟨ls,hv,ho,hn,hz⟩:=OwnH.ofRow hO (Nat.le_refl _)
 have x0:w''.cell? ⟨w.heap.size,0,none⟩=some (.int .i64 (rdN t k)):=hX.cell (j:=0) (by decide)
 have x1:w''.cell? ⟨w.heap.size,1,none⟩=some (.int .i64 (rdN t (k+1))):=hX.cell (j:=1) (by decide)
 have x2:w''.cell? ⟨w.heap.size,2,none⟩=some (.int .i64 (rdN t (k+2))):=hX.cell (j:=2) (by decide)
 have x3:w''.cell? ⟨w.heap.size,3,none⟩=some (.int .i64 (rdN t (k+3))):=hX.cell (j:=3) (by decide)
 have x4:w''.cell? ⟨w.heap.size,4,none⟩=some (.int .i64 (rdN t (k+4))):=hX.cell (j:=4) (by decide)
 have x5:w''.cell? ⟨w.heap.size,5,none⟩=some (.slice ls.a ls.n ls.c):=(hX.cell (j:=5) (by decide)).trans (congrArg some hv)
 have e0:w''.cell? ⟨w.heap.size+1,0,none⟩=some (.int .i64 0):=hE.cell (j:=0) (by decide)
 refine ⟨.tuple #[(Ax.mk (rdN t k) (rdN t (k+1)) (rdN t (k+2)) (rdN t (k+3)) (rdN t (k+4)) ls).val,.int .i64 0],?_,Or.inl ⟨hyes,ls,rfl,hn,fun j _=>by rw [hz],ho,hR⟩,hB⟩
 simp [results,Tryz.results40,go_sem,h2,h3,x0,x1,x2,x3,x4,x5,e0,Ax.val,Ax.cells]
theorem owns_bt {A R m:Nat} {w w':World} {e t:TypeId} {size:Nat} {v:Value} {n:Nat} {xs:List Value} {f:Nat→Value} (h:w.ownsRow A e size v n xs) (hb:Bt R w w') (hR:Blk w R t m f) (hne:e≠t):w'.ownsRow A e size v n xs:=by
 refine ⟨h.1,h.2.imp_right fun ⟨g,cap,cur,h1,h2,h3,h4⟩=>⟨g,cap,cur,h1,h2,?_,h4⟩⟩
 rw [hb.block g (Array.getElem?_eq_some_iff.1 h3).1 (fun e'=>by
  obtain ⟨c2,hc2,_⟩:=hR
  subst e'
  rw [hc2] at h3
  cases h3
  exact hne rfl)]
 exact h3
structure Mid (R k m X:Nat) (t:List UInt8) (w wk:World) (v:Value) (n:Nat):Prop where
 x:Blk wk X 47 6 (hx t k v)
 o:wk.ownsRow X 59 4 v n (flatH n (fun j=>rdL t (k+6+4*j)))
 e:Blk wk (X+1) 32 1 (fun _ => .int .i64 0)
 r:RdAt R wk t m
 b:Bt R w wk
theorem Mid.set {R k m X n j:Nat} {t:List UInt8} {w wk:World} {v:Value} (h:Mid R k m X t w wk v n) (hw:w.heap.size≤X) (hR:X≠R) (u:Value) (hu:hx t k v j=u):Mid R k m X t w (wk.setCell ⟨X,j,none⟩ u) v n :=
 ⟨(h.x.set j u).congr (fun i _=>by by_cases c:i=j<;>simp [c,hu]),owns_other h.o h.x (by decide) j u,h.e.other (a:=⟨X,j,none⟩) (by dsimp only;omega) u,Blk.other h.r (a:=⟨X,j,none⟩) (by dsimp only;omega) u,h.b.set (p:=⟨X,j,none⟩) (Or.inr hw) u⟩
theorem Mid.setE {R k m X n:Nat} {t:List UInt8} {w wk:World} {v:Value} (h:Mid R k m X t w wk v n) (hw:w.heap.size≤X) (hR:X+1≠R):Mid R k m X t w (wk.setCell ⟨X+1,0,none⟩ (.int .i64 0)) v n :=
 ⟨h.x.other (a:=⟨X+1,0,none⟩) (by dsimp only;omega) _,owns_other h.o h.e (by decide) 0 _,(h.e.set 0 _).congr (fun i _=>by simp),Blk.other h.r (a:=⟨X+1,0,none⟩) (by dsimp only;omega) _,h.b.set (p:=⟨X+1,0,none⟩) (Or.inr (by dsimp only;omega)) _⟩
theorem Mid.bt {R k m m' X n:Nat} {t:List UInt8} {w wk wk':World} {v:Value} (h:Mid R k m X t w wk v n) (hb:Bt R wk wk') (hX:X≠R) (hE:X+1≠R) (hr:RdAt R wk' t m'):Mid R k m' X t w wk' v n :=
 ⟨hb.blk h.x hX,owns_bt h.o hb h.r (by decide),hb.blk h.e hE,hr,h.b.trans hb⟩
theorem Mid.grew {R k m X n n':Nat} {t:List UInt8} {w wk wk':World} {v v':Value} (h:Mid R k m X t w wk v n) (hg:Grew X 59 wk wk') (hw:w.heap.size≤X) (ho:wk'.ownsRow X 59 4 v' n' (flatH n' (fun j=>rdL t (k+6+4*j)))) (hR:X≠R):Mid R k m X t w (wk'.setCell ⟨X,5,none⟩ v') v' n':=by
 have hx6:=hg.blk h.x (by decide)
 have he6:=hg.blk h.e (by decide)
 have hr6:RdAt R wk' t m:=hg.blk h.r (by decide)
 exact ⟨(hx6.set 5 v').congr (fun i hi=>by match i,hi with | 0,_ | 1,_ | 2,_ | 3,_ | 4,_ | 5,_=>rfl),owns_other ho hx6 (by decide) 5 v',he6.other (a:=⟨X,5,none⟩) (by dsimp only;omega) v',Blk.other hr6 (a:=⟨X,5,none⟩) (by dsimp only;omega) v',(h.b.grew hg hw).set (p:=⟨X,5,none⟩) (Or.inr hw) v'⟩
theorem news4L (w:World) (Z:Hd) (e:TypeId):∀ j u,(hdCells Z)[j]?=some u→(w.alloc (.cells #[.int .i64 Z.o,.int .i64 Z.l,.int .i64 Z.b,.int .i64 Z.n] e)).cell? ((⟨w.heap.size,0,none⟩:Addr).add j)=some u:=by
 intro j u hj
 have ha:(⟨w.heap.size,0,none⟩:Addr).add j=⟨w.heap.size,j,none⟩:=by
  unfold Addr.add
  by_cases h:j=0
  ·subst h;rfl
  ·rw [if_neg h];simp
 rw [ha]
 have K:=Blk.new w #[.int .i64 Z.o,.int .i64 Z.l,.int .i64 Z.b,.int .i64 Z.n] e
 have hl:j<4:=(List.getElem?_eq_some_iff.1 hj).1
 rw [K.cell (j:=j) hl,← hj]
 match j,hl with
 | 0,_ | 1,_ | 2,_ | 3,_=>rfl
set_option maxRecDepth 100000 in
set_option maxHeartbeats 4000000 in
theorem act_any (R:Nat) (t:List UInt8) (k:Nat) (w:World) (hR:RdAt R w t k) (hk:k≤t.length) (ht:t.length≤4096) :
  Calls Tryz.prog 40 #[.pointer (some ⟨R,0,none⟩)] w fun e w'=>ActRead R t k w w' e:=by
 have hmf:∀ (fn:Fn) (first cap:Array Value) (w:World),(Instr.makeFunc fn first cap).run Tryz.prog w = .ok (.func fn first cap) w:=fun _ _ _ _=>rfl
 have HR:Hid (RdAt R w t k):=hR
 have HK:Hid (k≤t.length∧t.length≤4096):=⟨hk,ht⟩
 clear hR hk ht
 have HRX:Hid (R<w.heap.size):=Blk.lt HR.out
 obtain ⟨W0,hW,KX,KE,KL,KG,KB⟩:∃ W,(((w.alloc (.cells #[.int .i64 0,.int .i64 0,.int .i64 0,.int .i64 0,.int .i64 0,.slice none 0 0] 47)).alloc (.cells #[.int .i64 0] 32)).alloc (.cells #[.int .i64 0] 3)).alloc (.cells #[.pointer (some ⟨w.heap.size,0,none⟩),.pointer (some ⟨w.heap.size,1,none⟩),.pointer (some ⟨w.heap.size,2,none⟩),.pointer (some ⟨w.heap.size,3,none⟩),.pointer (some ⟨w.heap.size,4,none⟩),.pointer (some ⟨w.heap.size+1+1,0,none⟩)] 119)=W ∧
   Blk W w.heap.size 47 6 zx∧Blk W (w.heap.size+1) 32 1 (fun _ => .int .i64 0)∧Blk W (w.heap.size+1+1) 3 1 (fun _ => .int .i64 0)∧Blk W (w.heap.size+1+1+1) 119 6 (fun j => .pointer (some ((headP w.heap.size (w.heap.size+1+1)).getD j default)))∧Bt R w W :=
  ⟨_,rfl,((((Blk.mk' (cur:=#[.int .i64 0,.int .i64 0,.int .i64 0,.int .i64 0,.int .i64 0,.slice none 0 0]) rfl rfl).alloc _).alloc _).alloc _).congr (fun j _=>rfl),(((Blk.mk' (cur:=#[.int .i64 0]) (by simp) rfl).alloc _).alloc _).congr (fun j hj=>by match j,hj with | 0,_=>rfl),((Blk.mk' (cur:=#[.int .i64 0]) (by simp) rfl).alloc _).congr (fun j hj=>by match j,hj with | 0,_=>rfl),
   (Blk.mk' (cur:=#[.pointer (some ⟨w.heap.size,0,none⟩),.pointer (some ⟨w.heap.size,1,none⟩),.pointer (some ⟨w.heap.size,2,none⟩),.pointer (some ⟨w.heap.size,3,none⟩),.pointer (some ⟨w.heap.size,4,none⟩),.pointer (some ⟨w.heap.size+1+1,0,none⟩)]) (by simp) rfl).congr (fun j hj=>by match j,hj with | 0,_ | 1,_ | 2,_ | 3,_ | 4,_ | 5,_=>rfl),((((Bt.refl R w).alloc _).alloc _).alloc _).alloc _⟩
 have HW:Hid ((((w.alloc (.cells #[.int .i64 0,.int .i64 0,.int .i64 0,.int .i64 0,.int .i64 0,.slice none 0 0] 47)).alloc (.cells #[.int .i64 0] 32)).alloc (.cells #[.int .i64 0] 3)).alloc (.cells #[.pointer (some ⟨w.heap.size,0,none⟩),.pointer (some ⟨w.heap.size,1,none⟩),.pointer (some ⟨w.heap.size,2,none⟩),.pointer (some ⟨w.heap.size,3,none⟩),.pointer (some ⟨w.heap.size,4,none⟩),.pointer (some ⟨w.heap.size+1+1,0,none⟩)] 119)=W0):=hW
 have HK0:Hid (Blk W0 w.heap.size 47 6 zx∧Blk W0 (w.heap.size+1) 32 1 (fun _ => .int .i64 0)∧Blk W0 (w.heap.size+1+1) 3 1 (fun _ => .int .i64 0)∧Blk W0 (w.heap.size+1+1+1) 119 6 (fun j => .pointer (some ((headP w.heap.size (w.heap.size+1+1)).getD j default)))∧Bt R w W0):=⟨KX,KE,KL,KG,KB⟩
 have HR0:Hid (RdAt R W0 t k):=by
  have h:=HR.out
  unfold RdAt at h ⊢
  rw [← hW]
  exact (((h.alloc _).alloc _).alloc _).alloc _
 clear hW KX KE KL KG KB
 go_enter_defers Tryz.func40,Tryz.ntmps40
 go_wp2_with fail
 rw [HW.out]
 obtain ⟨KX,KE,KL,KG,KB⟩:=HK0.out
 have hXR:w.heap.size≠R:=by have:=HRX.out;omega
 have hps:∀ p∈headP w.heap.size (w.heap.size+1+1),IntC W0 p∧R≠p.block∧w.heap.size+1+1+1≠p.block:=by
  have hrx:=HRX.out
  intro p hp
  simp only [headP,List.mem_cons,List.not_mem_nil,or_false] at hp
  rcases hp with rfl | rfl | rfl | rfl | rfl | rfl
  ·exact ⟨IntC.ofBlk KX (by decide) (z:=0) rfl,by dsimp only;omega,by dsimp only;omega⟩
  ·exact ⟨IntC.ofBlk KX (by decide) (z:=0) rfl,by dsimp only;omega,by dsimp only;omega⟩
  ·exact ⟨IntC.ofBlk KX (by decide) (z:=0) rfl,by dsimp only;omega,by dsimp only;omega⟩
  ·exact ⟨IntC.ofBlk KX (by decide) (z:=0) rfl,by dsimp only;omega,by dsimp only;omega⟩
  ·exact ⟨IntC.ofBlk KX (by decide) (z:=0) rfl,by dsimp only;omega,by dsimp only;omega⟩
  ·exact ⟨IntC.ofBlk KL (by decide) (z:=0) rfl,by dsimp only;omega,by dsimp only;omega⟩
 have hpb:∀ p∈headP w.heap.size (w.heap.size+1+1),p.block=R∨w.heap.size≤p.block:=by
  intro p hp
  simp only [headP,List.mem_cons,List.not_mem_nil,or_false] at hp
  rcases hp with rfl | rfl | rfl | rfl | rfl | rfl<;>(right;dsimp only;omega)
 refine (get_any R (w.heap.size+1+1+1) t k (headP w.heap.size (w.heap.size+1+1)) W0 HR0.out HK.out.1 HK.out.2 (by have:=HRX.out;omega) (by show 6≤100;decide) KG hps).mono ?_
 rintro e w1 (⟨rfl,hlen,hE⟩ | ⟨rfl,hlen,i,hE⟩)
 ·have hlen6:k+6≤t.length:=hlen
  have h1:=head_read (R:=R) (t:=t) (k:=k) KX KL (by omega) hXR (by have:=HRX.out;omega)
  have HX1:Hid (Blk w1 w.heap.size 47 6 (hx t k (.slice none 0 0))):=hE.blk h1.1
  have HE1:Hid (Blk w1 (w.heap.size+1) 32 1 (fun _ => .int .i64 0)):=hE.blk (getW_blk R t _ k W0 (fun p hp=>by
   simp only [headP,List.mem_cons,List.not_mem_nil,or_false] at hp
   rcases hp with rfl | rfl | rfl | rfl | rfl | rfl<;>(dsimp only;omega)) (by have:=HRX.out;omega) KE)
  have kl1:=hE.blk h1.2
  have HB1:Hid (Bt R w w1):=(getW_bt R t _ k W0 KB hpb).trans (hE.bt R)
  have HR1:Hid (RdAt R w1 t (k+6)):=hE.blk (RdAt.getW (headP w.heap.size (w.heap.size+1+1)) k W0 (fun p hp=>(hps p hp).2.1) HR0.out)
  have l0:w1.cell? ⟨w.heap.size+1+1,0,none⟩=some (.int .i64 (rdC t k:Int)):=by rw [rdC_eq];exact kl1.cell (j:=0) (by decide)
  have l1:=kl1.lt
  clear KX KE KL KG KB hps hpb h1 kl1 hE HW HK0 HR0 hmf
  by_cases h3:rdC t k≤3
  ·have q3:¬ (3:Int)<(rdC t k:Int):=by omega
   go_wp2_with fail
   clear l0 l1 q3
   have HC3:Hid (rdC t k≤3∧k+6≤t.length∧t.length≤4096):=⟨h3,hlen6,HK.out.2⟩
   have n3:(rdC t k:Int)≤3:=by omega
   obtain ⟨iL,hL1,hL2,hL3,hL4⟩:=info_parts infoLineC
   generalize hN:rdC t k=N at *
   have HN:Hid (rdC t k=N):=hN
   clear hN h3 hlen hlen6
   have HER:Hid (w.heap.size≠R∧w.heap.size+1≠R):=by have:=HRX.out;exact ⟨by omega,by omega⟩
   go_loopw [19] (fun jv wk=>∃ (j:Nat) (a:Option Addr) (c:Nat),j≤N∧jv = .int .i64 j∧Hid (Mid R k (k+6+4*j) w.heap.size t w wk (.slice a j c) j∧k+6+4*j≤t.length)) (fun jv _=>N - (intOf jv).toNat)
   case atStart=>exact ⟨0,none,0,Nat.zero_le _,rfl,⟨HX1.out,World.ownsRow_nil _ _ _ _,HE1.out,HR1.out,HB1.out⟩,HC3.out.2.1⟩
   case round =>
    obtain ⟨j,a,c,hj,rfl,HS⟩:=hrel
    clear HX1 HE1 HB1 HR1
    by_cases hlt:j<N
    ·have q1:(j:Int)<(N:Int):=by omega
     obtain ⟨W2,hW2,KL,KG,KB⟩:∃ W,(wr.alloc (.cells #[.int .i64 0,.int .i64 0,.int .i64 0,.int .i64 0] 59)).alloc (.cells #[.pointer (some ⟨wr.heap.size,0,none⟩),.pointer (some ⟨wr.heap.size,1,none⟩),.pointer (some ⟨wr.heap.size,2,none⟩),.pointer (some ⟨wr.heap.size,3,none⟩)] 119)=W ∧
       Blk W wr.heap.size 59 4 (fun _ => .int .i64 0)∧Blk W (wr.heap.size+1) 119 4 (fun j => .pointer (some ((lineP wr.heap.size).getD j default)))∧Bt R wr W :=
      ⟨_,rfl,((Blk.mk' (cur:=#[.int .i64 0,.int .i64 0,.int .i64 0,.int .i64 0]) rfl rfl).alloc _).congr (fun j hj=>by match j,hj with | 0,_ | 1,_ | 2,_ | 3,_=>rfl),(Blk.mk' (cur:=#[.pointer (some ⟨wr.heap.size,0,none⟩),.pointer (some ⟨wr.heap.size,1,none⟩),.pointer (some ⟨wr.heap.size,2,none⟩),.pointer (some ⟨wr.heap.size,3,none⟩)]) (by simp) rfl).congr (fun j hj=>by match j,hj with | 0,_ | 1,_ | 2,_ | 3,_=>rfl),((Bt.refl R wr).alloc _).alloc _⟩
     have HW2:Hid ((wr.alloc (.cells #[.int .i64 0,.int .i64 0,.int .i64 0,.int .i64 0] 59)).alloc (.cells #[.pointer (some ⟨wr.heap.size,0,none⟩),.pointer (some ⟨wr.heap.size,1,none⟩),.pointer (some ⟨wr.heap.size,2,none⟩),.pointer (some ⟨wr.heap.size,3,none⟩)] 119)=W2):=hW2
     have HK2:Hid (Blk W2 wr.heap.size 59 4 (fun _ => .int .i64 0)∧Blk W2 (wr.heap.size+1) 119 4 (fun j => .pointer (some ((lineP wr.heap.size).getD j default)))∧Bt R wr W2):=⟨KL,KG,KB⟩
     clear hW2 KL KG KB
     go_wp2_with fail
     rw [HW2.out]
     obtain ⟨KL,KG,KB⟩:=HK2.out
     have hwr:w.heap.size≤wr.heap.size:=HS.out.1.b.size
     have hRr:R<wr.heap.size:=Blk.lt HS.out.1.r
     have HR2:RdAt R W2 t (k+6+4*j):=by
      have h:=HS.out.1.r
      unfold RdAt at h ⊢
      rw [← HW2.out]
      exact (h.alloc _).alloc _
     have hps:∀ p∈lineP wr.heap.size,IntC W2 p∧R≠p.block∧wr.heap.size+1≠p.block:=by
      intro p hp
      simp only [lineP,List.mem_cons,List.not_mem_nil,or_false] at hp
      rcases hp with rfl | rfl | rfl | rfl<;>exact ⟨IntC.ofBlk KL (by decide) (z:=0) rfl,by dsimp only;omega,by dsimp only;omega⟩
     have hpb:∀ p∈lineP wr.heap.size,p.block=R∨wr.heap.size≤p.block:=by
      intro p hp
      simp only [lineP,List.mem_cons,List.not_mem_nil,or_false] at hp
      rcases hp with rfl | rfl | rfl | rfl<;>(right;dsimp only;omega)
     refine (get_any R (wr.heap.size+1) t (k+6+4*j) (lineP wr.heap.size) W2 HR2 HS.out.2 HC3.out.2.2 (by omega) (by show 4≤100;decide) KG hps).mono ?_
     rintro e w3 (⟨rfl,hlen,hE⟩ | ⟨rfl,hlen,i,hE⟩)
     ·have hB3:Bt R wr w3:=(getW_bt R t _ _ W2 KB hpb).trans (hE.bt R)
      have hr3:RdAt R w3 t (k+6+4*(j+1)):=hE.blk (RdAt.getW (lineP wr.heap.size) _ W2 (fun p hp=>(hps p hp).2.1) HR2)
      have HM3:Hid (Mid R k (k+6+4*(j+1)) w.heap.size t w w3 (.slice a j c) j):=HS.out.1.bt hB3 HER.out.1 HER.out.2 hr3
      have HL4:Hid (k+6+4*(j+1)≤t.length):=hlen
      have kl3:=hE.blk (line_read (R:=R) (t:=t) (k:=k+6+4*j) KL (by omega))
      obtain ⟨Z,hZ⟩:∃ Z,rdL t (k+6+4*j)=Z:=⟨_,rfl⟩
      rw [hZ] at kl3
      have HZ:Hid (rdL t (k+6+4*j)=Z):=hZ
      have b0:w3.cell? ⟨wr.heap.size,0,none⟩=some (.int .i64 Z.o):=kl3.cell (j:=0) (by decide)
      have b1:w3.cell? ⟨wr.heap.size,1,none⟩=some (.int .i64 Z.l):=kl3.cell (j:=1) (by decide)
      have b2:w3.cell? ⟨wr.heap.size,2,none⟩=some (.int .i64 Z.b):=kl3.cell (j:=2) (by decide)
      have b3:w3.cell? ⟨wr.heap.size,3,none⟩=some (.int .i64 Z.n):=kl3.cell (j:=3) (by decide)
      have b4:=kl3.lt
      have x5:w3.cell? ⟨w.heap.size,5,none⟩=some (.slice a j c):=HM3.out.x.cell (j:=5) (by decide)
      have xl:=HM3.out.x.lt
      obtain ⟨W5,hW5,hB5,hBt5⟩:∃ W,w3.alloc (.cells #[.int .i64 Z.o,.int .i64 Z.l,.int .i64 Z.b,.int .i64 Z.n] 59)=W∧Below w3.heap.size w3 W∧Bt R w3 W:=⟨_,rfl,(Below.refl _ _).alloc (Nat.le_refl _) _,(Bt.refl _ _).alloc _⟩
      have HW5:Hid (w3.alloc (.cells #[.int .i64 Z.o,.int .i64 Z.l,.int .i64 Z.b,.int .i64 Z.n] 59)=W5):=hW5
      have HNW:Hid (∀ j u,(hdCells Z)[j]?=some u→W5.cell? ((⟨w3.heap.size,0,none⟩:Addr).add j)=some u):=by rw [← hW5];exact news4L w3 Z _
      have HM5:Hid (Mid R k (k+6+4*(j+1)) w.heap.size t w W5 (.slice a j c) j):=HM3.out.bt hBt5 HER.out.1 HER.out.2 (Blk.below HM3.out.r hB5)
      have HS5:Hid (w.heap.size≤W5.heap.size):=HM5.out.b.size
      clear hB3 hr3 kl3 hZ hW5 hB5 hBt5 KL KG KB hps hpb hE HK2 HW2 HR2 hwr hRr hlen HM3
      go_wp2_with (at_builtin;rw [HW5.out];refine wpList_append_own W5 rfl (.tmp 29) (.tmp 31) 45 rfl w.heap.size 59 iL (.agg #[.int .i64 0,.int .i64 0,.int .i64 0,.int .i64 0]) 4 32 Tryz.underlying45 hL1 hL2 hL3 hL4 rfl (by decide) (.slice a j c) j (flatH j (fun j=>rdL t (k+6+4*j))) rfl HM5.out.o ⟨w3.heap.size,0,none⟩ 1 1 (hdCells Z) rfl rfl HNW.out (fun u hu=>by simp [hdCells] at hu;rcases hu with rfl | rfl | rfl | rfl<;>rfl) (by unfold maxLen;omega) (by omega) HS5.out ?_)
      intro v2 w6 r1 r2 _
      obtain ⟨a2,c2,rfl,-⟩:=owns_val r1
      have hr1:w6.ownsRow w.heap.size 59 4 (.slice a2 (j+1) c2) (j+1) (flatH (j+1) (fun j=>rdL t (k+6+4*j))):=by
       rw [flatH_succ,HZ.out]
       exact r1
      have hg:=grew_own HM5.out.o r2
      have kx6:=hg.blk HM5.out.x (by decide)
      have HM7:Hid (Mid R k (k+6+4*(j+1)) w.heap.size t w (w6.setCell ⟨w.heap.size,5,none⟩ (.slice a2 (j+1) c2)) (.slice a2 (j+1) c2) (j+1)):=HM5.out.grew hg (Nat.le_refl _) hr1 HER.out.1
      have y5:w6.cell? ⟨w.heap.size,5,none⟩=some (.slice a j c):=kx6.cell (j:=5) (by decide)
      have y6:=kx6.frozen 5
      have y7:=kx6.lt
      clear r1 r2 hr1 hg kx6 HM5 HNW HW5 b0 b1 b2 b3 b4 x5 xl
      try simp only [Act.put,List.setIfInBounds_toArray,List.set_cons_succ,List.set_cons_zero]
      go_wp2_with fail
      go_roundw
      case rel=>exact ⟨j+1,a2,c2,by omega,by go_num,HM7.out,HL4.out⟩
      case measure=>simp [intOf];omega
     ·have hB3:Bt R wr w3:=(getW_bt R t _ _ W2 KB fun p hp=>hpb p (List.mem_of_mem_take hp)).trans (hE.bt R)
      have hno:rdOK t k=false:=by
       cases h:rdOK t k
       ·rfl
       ·have h1:t.length<k+6+4*j+4:=hlen
        have h2:=(rdOK_iff.1 h).2.2
        unfold rdSize at h2
        rw [HN.out] at h2
        omega
      exact act_fails rfl rfl ⟨_,hB3.blk HS.out.1.x HER.out.1⟩ ⟨_,hB3.blk HS.out.1.e HER.out.2⟩ (HS.out.1.b.trans hB3) hno
    ·have q1:¬ (j:Int)<(N:Int):=by omega
     have hje:j=N:=by omega
     subst hje
     have KX:=HS.out.1.x
     have KE:=HS.out.1.e
     have x0:wr.cell? ⟨w.heap.size,0,none⟩=some (.int .i64 (rdN t k)):=KX.cell (j:=0) (by decide)
     have x1:wr.cell? ⟨w.heap.size,1,none⟩=some (.int .i64 (rdN t (k+1))):=KX.cell (j:=1) (by decide)
     have x2:wr.cell? ⟨w.heap.size,2,none⟩=some (.int .i64 (rdN t (k+2))):=KX.cell (j:=2) (by decide)
     have x3:wr.cell? ⟨w.heap.size,3,none⟩=some (.int .i64 (rdN t (k+3))):=KX.cell (j:=3) (by decide)
     have x4:wr.cell? ⟨w.heap.size,4,none⟩=some (.int .i64 (rdN t (k+4))):=KX.cell (j:=4) (by decide)
     have x5:wr.cell? ⟨w.heap.size,5,none⟩=some (.slice a j c):=KX.cell (j:=5) (by decide)
     have f0:=KX.frozen 0
     have f1:=KX.frozen 1
     have f2:=KX.frozen 2
     have f3:=KX.frozen 3
     have f4:=KX.frozen 4
     have f5:=KX.frozen 5
     have xl:=KX.lt
     have e0:wr.cell? ⟨w.heap.size+1,0,none⟩=some (.int .i64 0):=KE.cell (j:=0) (by decide)
     have e1:=KE.frozen 0
     have el:=KE.lt
     clear KX KE
     go_wp2_with fail
     have hM:=((((((HS.out.1.set (Nat.le_refl _) HER.out.1 (j:=0) (.int .i64 (rdN t k)) rfl).set (Nat.le_refl _) HER.out.1 (j:=1) (.int .i64 (rdN t (k+1))) rfl).set (Nat.le_refl _) HER.out.1 (j:=2) (.int .i64 (rdN t (k+2))) rfl).set (Nat.le_refl _) HER.out.1 (j:=3) (.int .i64 (rdN t (k+3))) rfl).set (Nat.le_refl _) HER.out.1 (j:=4) (.int .i64 (rdN t (k+4))) rfl).set (Nat.le_refl _) HER.out.1 (j:=5) (.slice a j c) rfl).setE (Nat.le_refl _) HER.out.2
     have hyes:rdOK t k=true:=rdOK_iff.2 ⟨HC3.out.2.1,by rw [HN.out];exact HC3.out.1,by unfold rdSize;rw [HN.out];have:=HS.out.2;omega⟩
     refine act_returns (a:=a) (c:=c) rfl rfl (by rw [HN.out];exact hM.x) hM.e hM.b hyes (by rw [HN.out];exact hM.o) ?_
     have hR:=hM.r
     unfold rdSize
     rw [HN.out,show k+(6+4*j)=k+6+4*j by omega]
     exact hR
  ·have q3:(3:Int)<(rdC t k:Int):=by omega
   have hno:rdOK t k=false:=by
    cases h:rdOK t k
    ·rfl
    ·exact absurd (rdOK_iff.1 h).2.1 h3
   go_wp2_with fail
   exact act_fails rfl rfl ⟨_,HX1.out⟩ ⟨_,HE1.out⟩ HB1.out hno
 ·have hno:rdOK t k=false:=by
   cases h:rdOK t k
   ·rfl
   ·have h1:t.length<k+6:=hlen
    have:=(rdOK_iff.1 h).1
    omega
  have hsp:∀ p∈(headP w.heap.size (w.heap.size+1+1)).take i,p.spot=none:=fun p hp=>by
   have hp:=List.mem_of_mem_take hp
   simp only [headP,List.mem_cons,List.not_mem_nil,or_false] at hp
   rcases hp with rfl | rfl | rfl | rfl | rfl | rfl<;>rfl
  obtain ⟨fx,hfx⟩:=Shp.getW (R:=R) (t:=t) _ k W0 hsp ⟨_,KX⟩
  obtain ⟨fe,hfe⟩:=Shp.getW (R:=R) (t:=t) _ k W0 hsp ⟨_,KE⟩
  exact act_fails rfl rfl ⟨_,hE.blk hfx⟩ ⟨_,hE.blk hfe⟩ ((getW_bt R t _ k W0 KB fun p hp=>hpb p (List.mem_of_mem_take hp)).trans (hE.bt R)) hno
end Go.Proofs.YtbcacebifpagpagGreat
namespace Go.Proofs.YtbcacebifpagpagGreat
open Go.RowKit
set_option linter.unusedVariables false
def SameL:List Ax→List Ax→Prop
 | [],[]=>True
 | x :: l,y :: m=>SameA x y∧SameL l m
 | _,_=>False
theorem SameL.len:∀ {l m:List Ax},SameL l m→l.length=m.length
 | [],[],_=>rfl
 | _ :: _,_ :: _,h=>by rw [List.length_cons,List.length_cons,h.2.len]
 | [],_ :: _,h=>h.elim
 | _ :: _,[],h=>h.elim
theorem doneT_same {p:Pl}:∀ {l m:List Ax} {y s:St},RightT p s→SameT y s→SameL l m→SameT (doneT p y l) (doneT p s m)
 | [],[],_,_,_,e,_=>e
 | x :: l,x' :: m,y,s,r,e,h=>doneT_same (l:=l) (m:=m) (y:=doneS p y x) (s:=doneS p s x') (doneS_right r) (doneS_same r e h.1) h.2
 | [],_ :: _,_,_,_,_,h=>h.elim
 | _ :: _,[],_,_,_,_,h=>h.elim
theorem doneT_app (p:Pl) (s:St) (l m:List Ax):doneT p s (l++m)=doneT p (doneT p s l) m:=List.foldl_append ..
end Go.Proofs.YtbcacebifpagpagGreat
namespace Go.Proofs.YtbcacebifpagpagGreat
open Go.RowKit Go.Shelf
set_option linter.unusedVariables false
theorem infoAct:(Tryz.prog.info? 47).map (fun i=>(i.zero,i.size,i.bytes))=some (some (.agg #[.int .i64 0,.int .i64 0,.int .i64 0,.int .i64 0,.int .i64 0,.slice none 0 0]),6,64):=by kernel_rfl
def lenOf:Value→Nat
 | .slice _ n _=>n
 | _=>0
theorem OwnH.bt {A R m:Nat} {e t:TypeId} {w w':World} {s:Hs} {f:Nat→Value} (h:OwnH A e w s) (hb:Bt R w w') (hR:Blk w R t m f) (hne:e≠t):OwnH A e w' s:=by
 obtain ⟨h1,h2,h3,h4⟩:=h
 refine ⟨h1,h2,h3,fun hn => ?_⟩
 obtain ⟨g,ha,hA,hk⟩:=h4 hn
 exact ⟨g,ha,hA,hb.blk hk (Blk.ne2 hk hR hne)⟩
theorem news6 (w:World) (x:Ax) (e:TypeId):∀ j u,(axCells x)[j]?=some u→(w.alloc (.cells #[.int .i64 x.k,.int .i64 x.a,.int .i64 x.b,.int .i64 x.c,.int .i64 x.n,.slice x.ls.a x.ls.n x.ls.c] e)).cell? ((⟨w.heap.size,0,none⟩:Addr).add j)=some u:=by
 intro j u hj
 have ha:(⟨w.heap.size,0,none⟩:Addr).add j=⟨w.heap.size,j,none⟩:=by
  unfold Addr.add
  by_cases h:j=0
  ·subst h;rfl
  ·rw [if_neg h];simp
 rw [ha]
 have K:=Blk.new w #[.int .i64 x.k,.int .i64 x.a,.int .i64 x.b,.int .i64 x.c,.int .i64 x.n,.slice x.ls.a x.ls.n x.ls.c] e
 have hl:j<6:=(List.getElem?_eq_some_iff.1 hj).1
 rw [K.cell (j:=j) hl,← hj]
 match j,hl with
 | 0,_ | 1,_ | 2,_ | 3,_ | 4,_ | 5,_=>rfl
structure Rep (k:Nat) (t:List UInt8) (w wk:World) (v:Value) (l:List Ax) (zs:Nat→Ax):Prop where
 o:wk.ownsRow w.heap.size 47 6 v l.length (flatA l.length zs)
 z:∀ i (h:i<l.length),SameA (zs i) l[i]∧OwnH w.heap.size 59 wk (zs i).ls
 kl:k≤t.length
 b:Below w.heap.size w wk
 rep:repF t 60 0=(l++(repF t (60 - l.length) k).1,(repF t (60 - l.length) k).2)
theorem Rep.below {k:Nat} {t:List UInt8} {w wk wk':World} {v:Value} {l:List Ax} {zs:Nat→Ax} (h:Rep k t w wk v l zs) (hb:Below wk.heap.size wk wk'):Rep k t w wk' v l zs :=
 ⟨owns_below h.o hb,fun i hi=>⟨(h.z i hi).1,(h.z i hi).2.below hb⟩,h.kl,h.b.trans (hb.mono h.b.size),h.rep⟩
theorem Rep.bt {k m:Nat} {t:List UInt8} {w wk wk':World} {v:Value} {l:List Ax} {zs:Nat→Ax} (h:Rep k t w wk v l zs) (hb:Bt w.heap.size wk wk') (hR:RdAt w.heap.size wk t m):Rep k t w wk' v l zs :=
 ⟨owns_bt h.o hb hR (by decide),fun i hi=>⟨(h.z i hi).1,(h.z i hi).2.bt hb hR (by decide)⟩,h.kl,h.b.trans (hb.below (Nat.le_refl _) h.b.size),h.rep⟩
def moreA (n:Nat) (zs:Nat→Ax) (x:Ax) (i:Nat):Ax:=if i=n then x else zs i
theorem Rep.more {k:Nat} {t:List UInt8} {w wk wk':World} {v v2:Value} {l:List Ax} {zs:Nat→Ax} {x:Ax} (h:Rep k t w wk v l zs) (hyes:rdOK t k=true) (hs:SameA x (rdA t k)) (ho:OwnH w.heap.size 59 wk x.ls) (hl:l.length<60) (hg:Grew w.heap.size 47 wk wk') (h2:wk'.ownsRow w.heap.size 47 6 v2 (l.length+1) (flatA l.length zs++axCells x)):Rep (k+rdSize t k) t w wk' v2 (l++[rdA t k]) (moreA l.length zs x):=by
 have hlen:(l++[rdA t k]).length=l.length+1:=by simp
 refine ⟨?_,fun i hi => ?_,(rdOK_iff.1 hyes).2.2,hg.below h.b (Nat.le_refl _) h.b.size,?_⟩
 ·rw [hlen,flatA,flatA_congr (z':=zs) fun i hi=>by unfold moreA;rw [if_neg (by omega)],show moreA l.length zs x l.length=x from if_pos rfl]
  exact h2
 ·have hi':i<l.length+1:=by rw [← hlen];exact hi
  by_cases c:i=l.length
  ·subst c
   rw [List.getElem_append_right (Nat.le_refl _),show moreA l.length zs x l.length=x from if_pos rfl]
   simp only [Nat.sub_self,List.getElem_cons_zero]
   exact ⟨hs,ho.grew hg (by decide)⟩
  ·rw [List.getElem_append_left (by omega),show moreA l.length zs x i=zs i from if_neg c]
   exact ⟨(h.z i (by omega)).1,(h.z i (by omega)).2.grew hg (by decide)⟩
 ·rw [h.rep,hlen,show 60 - l.length=60 - (l.length+1)+1 by omega,repF_yes hyes]
  simp
structure OwnA (A:Nat) (w:World) (s:As):Prop where
 le:s.n≤s.c
 cap:s.c≤maxLen
 list:0<s.n→∃ g,s.a=some ⟨g,0,none⟩∧A≤g∧Blk w g 47 (s.n*6) (fun j=>(flatA s.n s.z).getD j default)
 lines:∀ i,i<s.n→OwnH A 59 w (s.z i).ls
theorem OwnA.at {A:Nat} {w:World} {s:As} (h:OwnA A w s):s.At w:=by
 refine ⟨h.le,h.cap,fun i hi => ?_,fun i hi=>(h.lines i hi).at⟩
 obtain ⟨g,ha,hA,hb⟩:=h.list (by omega)
 refine ⟨g,0,ha,fun j hj => ?_⟩
 rw [Nat.zero_add,hb.cell (j:=i*6+j) (by omega)]
 congr 1
 exact flatA_get hi hj
theorem OwnA.below {A:Nat} {w w':World} {s:As} (h:OwnA A w s) (hB:Below w.heap.size w w'):OwnA A w' s:=by
 refine ⟨h.le,h.cap,fun hn => ?_,fun i hi=>(h.lines i hi).below hB⟩
 obtain ⟨g,ha,hA,hb⟩:=h.list hn
 exact ⟨g,ha,hA,hb.below hB⟩
theorem OwnH.btA {A R:Nat} {e:TypeId} {w w':World} {s:Hs} (h:OwnH A e w s) (hb:Bt R w w') (hR:R<A):OwnH A e w' s:=by
 obtain ⟨h1,h2,h3,h4⟩:=h
 refine ⟨h1,h2,h3,fun hn => ?_⟩
 obtain ⟨g,ha,hA,hk⟩:=h4 hn
 exact ⟨g,ha,hA,hb.blk hk (by omega)⟩
theorem OwnA.bt {A R:Nat} {w w':World} {s:As} (h:OwnA A w s) (hB:Bt R w w') (hR:R<A):OwnA A w' s:=by
 refine ⟨h.le,h.cap,fun hn => ?_,fun i hi=>(h.lines i hi).btA hB hR⟩
 obtain ⟨g,ha,hA,hb⟩:=h.list hn
 exact ⟨g,ha,hA,hB.blk hb (by omega)⟩
def RepOK (t:List UInt8) (w w':World) (s:As):Prop:=s.n=(repL t).length∧(∀ i (h:i<(repL t).length),SameA (s.z i) (repL t)[i])∧OwnA w.heap.size w' s∧Below w.heap.size w w'
theorem Rep.done {k:Nat} {t:List UInt8} {w wk:World} {v:Value} {l:List Ax} {zs:Nat→Ax} (h:Rep k t w wk v l zs) (ht:t.length≤4096) (he:repF t (60 - l.length) k=([],k)):∃ s:As,v=s.val∧RepOK t w wk s∧repN t=k:=by
 have hr:=h.rep
 rw [he] at hr
 have hL:repL t=l:=by unfold repL;rw [if_neg (by omega),hr];simp
 have hN:repN t=k:=by unfold repN;rw [if_neg (by omega),hr]
 obtain ⟨a,c,hv,hm⟩:=owns_val h.o
 refine ⟨⟨a,l.length,c,zs⟩,hv,⟨by rw [hL],fun i hi => ?_,?_,h.b⟩,hN⟩
 ·have e:(repL t)[i]=l[i]'(by rw [← hL];exact hi):=by simp only [hL]
  rw [e]
  exact (h.z i (by rw [← hL];exact hi)).1
 ·have ho:=h.o
  rw [hv] at ho
  refine ⟨?_,?_,fun hn => ?_,fun i hi=>(h.z i hi).2⟩
  ·obtain ⟨_,⟨h1,h2⟩ | ⟨g,cap,cur,h1,h2,h3,h4,_⟩⟩:=ho
   ·simp only [Value.slice.injEq] at h1;show l.length≤c;omega
   ·simp only [Value.slice.injEq] at h1;show l.length≤c;omega
  ·obtain ⟨_,⟨h1,h2⟩ | ⟨g,cap,cur,h1,h2,h3,h4,h5,_⟩⟩:=ho
   ·simp only [Value.slice.injEq] at h1;show c≤maxLen;omega
   ·simp only [Value.slice.injEq] at h1;show c≤maxLen;omega
  ·have hn':0<l.length:=hn
   have hne:(Value.slice a l.length c) ≠ .slice none 0 0:=fun e=>by simp only [Value.slice.injEq] at e;omega
   obtain ⟨g,c',e1,h1,h2,h3,h4⟩:=Blk.ofOwns ho hne
   simp only [Value.slice.injEq] at e1
   exact ⟨g,e1.1,h3,h4⟩
set_option maxRecDepth 100000 in
set_option maxHeartbeats 4000000 in
theorem Replay_any (t:List UInt8) (w:World) :
  Calls Tryz.prog 17 #[.string ⟨t.toArray⟩] w fun e w'=>∃ s:As,e = .returned (.tuple #[s.val,.int .i64 (repN t:Int),.int .i64 (repE t)])∧RepOK t w w' s:=by
 have tl:((⟨t.toArray⟩:ByteArray).size)=t.length:=by simp [ByteArray.size]
 by_cases hbig:4096<t.length
 ·have q1:(4096:Int)<(t.length:Int):=by omega
  have HE:Hid (repE t=2∧repN t=0∧repL t=[]):=⟨if_pos hbig,if_pos hbig,if_pos hbig⟩
  go_enter Tryz.func17,Tryz.ntmps17
  go_wp2_with fail
  refine bodyPost_ret (v := .tuple #[.slice none 0 0,.int .i64 0,.int .i64 2]) (by simp [results,Tryz.results17,go_sem]) rfl ?_
  refine ⟨⟨none,0,0,fun _=>⟨0,0,0,0,0,⟨none,0,0,fun _=>⟨0,0,0,0⟩⟩⟩⟩,by rw [HE.out.1,HE.out.2.1];rfl,by rw [HE.out.2.2];rfl,fun i hi => ?_,⟨Nat.le_refl _,Nat.zero_le _,fun hi=>absurd hi (Nat.not_lt_zero _),fun i hi=>absurd hi (Nat.not_lt_zero _)⟩,Below.refl _ _⟩
  rw [HE.out.2.2] at hi
  exact absurd hi (Nat.not_lt_zero _)
 ·have q1:¬ (4096:Int)<(t.length:Int):=by omega
  have HT:Hid (t.length≤4096):=by show _≤_;omega
  have HE:Hid (repE t=0):=if_neg hbig
  obtain ⟨iA,hA1,hA2,hA3,hA4⟩:=info_parts infoAct
  obtain ⟨W0,hW,KR,KB⟩:∃ W,w.alloc (.cells #[.string ⟨t.toArray⟩,.int .i64 0] 85)=W∧RdAt w.heap.size W t 0∧Below w.heap.size w W:=⟨_,rfl,(Blk.mk' (cur:=#[.string ⟨t.toArray⟩,.int .i64 0]) rfl rfl).congr (fun j hj=>by match j,hj with | 0,_=>rfl | 1,_=>rfl),(Below.refl _ _).alloc (Nat.le_refl _) _⟩
  have HW:Hid (w.alloc (.cells #[.string ⟨t.toArray⟩,.int .i64 0] 85)=W0):=hW
  have HR0:Hid (Rep 0 t w W0 (.slice none 0 0) [] (fun _=>⟨0,0,0,0,0,⟨none,0,0,fun _=>⟨0,0,0,0⟩⟩⟩)∧RdAt w.heap.size W0 t 0):=⟨⟨World.ownsRow_nil _ _ _ _,fun i h=>absurd h (Nat.not_lt_zero _),Nat.zero_le _,KB,rfl⟩,KR⟩
  clear hW KR KB hbig
  go_enter Tryz.func17,Tryz.ntmps17
  go_wp2_with fail
  rw [HW.out]
  clear HW
  go_loopw [6,7] (fun av kv wk=>∃ (l:List Ax) (zs:Nat→Ax) (a:Option Addr) (c k:Nat),l.length≤60∧av = .slice a l.length c∧kv = .int .i64 (k:Int)∧Hid (Rep k t w wk (.slice a l.length c) l zs∧RdAt w.heap.size wk t k)) (fun av _ _=>60 - lenOf av)
  case atStart=>exact ⟨[],_,none,0,0,Nat.zero_le _,rfl,rfl,HR0⟩
  case round =>
   obtain ⟨l,zs,a,c,k,hl,rfl,rfl,HS⟩:=hrel
   clear HR0
   by_cases hlt:l.length<60
   ·have q2:(l.length:Int)<60:=by omega
    go_wp2_with fail
    refine (act_any w.heap.size t k wr HS.out.2 HS.out.1.kl HT.out).mono ?_
    rintro e w1 ⟨⟨hyes,ls,rfl,hn,hz,ho,hr⟩ | ⟨hno,rfl⟩,hB⟩
    ·have hxs:SameA (Ax.mk (rdN t k) (rdN t (k+1)) (rdN t (k+2)) (rdN t (k+3)) (rdN t (k+4)) ls) (rdA t k):=⟨rfl,rfl,rfl,rfl,rfl,hn,fun j hj=>by
      show ls.z j=rdZ t k j
      rw [rdZ_in hj]
      exact hz j (by rw [hn];exact hj)⟩
     generalize hxe:Ax.mk (rdN t k) (rdN t (k+1)) (rdN t (k+2)) (rdN t (k+3)) (rdN t (k+4)) ls=x at *
     have hlx:x.ls=ls:=by rw [← hxe]
     obtain ⟨W5,hW5,hB5⟩:∃ W,(w1.alloc (.cells #[.int .i64 x.k,.int .i64 x.a,.int .i64 x.b,.int .i64 x.c,.int .i64 x.n,.slice x.ls.a x.ls.n x.ls.c] 47)).alloc (.cells #[.int .i64 x.k,.int .i64 x.a,.int .i64 x.b,.int .i64 x.c,.int .i64 x.n,.slice x.ls.a x.ls.n x.ls.c] 47)=W∧Below w1.heap.size w1 W:=⟨_,rfl,((Below.refl _ _).alloc (Nat.le_refl _) _).alloc (by simp) _⟩
     have HW5:Hid ((w1.alloc (.cells #[.int .i64 x.k,.int .i64 x.a,.int .i64 x.b,.int .i64 x.c,.int .i64 x.n,.slice x.ls.a x.ls.n x.ls.c] 47)).alloc (.cells #[.int .i64 x.k,.int .i64 x.a,.int .i64 x.b,.int .i64 x.c,.int .i64 x.n,.slice x.ls.a x.ls.n x.ls.c] 47)=W5):=hW5
     have HNW:Hid (∀ j u,(axCells x)[j]?=some u→W5.cell? ((⟨w1.heap.size+1,0,none⟩:Addr).add j)=some u):=by
      have h:=news6 (w1.alloc (.cells #[.int .i64 x.k,.int .i64 x.a,.int .i64 x.b,.int .i64 x.c,.int .i64 x.n,.slice x.ls.a x.ls.n x.ls.c] 47)) x 47
      rw [hW5] at h
      intro j u hj
      have:=h j u hj
      simpa using this
     have HR5:Hid (Rep k t w W5 (.slice a l.length c) l zs):=(HS.out.1.bt hB HS.out.2).below hB5
     have HO5:Hid (OwnH w.heap.size 59 W5 x.ls∧RdAt w.heap.size W5 t (k+rdSize t k)):=⟨by rw [hlx];exact (ho.mono HS.out.1.b.size).below hB5,Blk.below hr hB5⟩
     have HX5:Hid (SameA x (rdA t k)∧rdOK t k=true):=⟨hxs,hyes⟩
     have HS5:Hid (w.heap.size≤W5.heap.size):=HR5.out.b.size
     clear hn hz ho hr hxs hxe hlx hyes hW5 hB5 hB HS
     simp only [Ax.val,Ax.cells]
     go_wp2_with (at_builtin;rw [HW5.out];refine wpList_append_own W5 rfl (.tmp 24) (.tmp 26) 36 rfl w.heap.size 47 iA (.agg #[.int .i64 0,.int .i64 0,.int .i64 0,.int .i64 0,.int .i64 0,.slice none 0 0]) 6 64 Tryz.underlying36 hA1 hA2 hA3 hA4 rfl (by decide) (.slice a l.length c) l.length (flatA l.length zs) rfl HR5.out.o ⟨w1.heap.size+1,0,none⟩ 1 1 (axCells x) rfl rfl HNW.out (fun u hu=>by simp [axCells] at hu;rcases hu with rfl | rfl | rfl | rfl | rfl | rfl<;>rfl) (by unfold maxLen;omega) (by omega) HS5.out ?_)
     intro v2 w6 r1 r2 _
     obtain ⟨a2,c2,rfl,-⟩:=owns_val r1
     have hg:=grew_own HR5.out.o r2
     have HR6:Hid (Rep (k+rdSize t k) t w w6 (.slice a2 (l.length+1) c2) (l++[rdA t k]) (moreA l.length zs x)):=HR5.out.more HX5.out.2 HX5.out.1 HO5.out.1 hlt hg r1
     have HRR:Hid (RdAt w.heap.size w6 t (k+rdSize t k)):=hg.blk HO5.out.2 (by decide)
     have y0:w6.cell? ⟨w.heap.size,1,none⟩=some (.int .i64 ((k+rdSize t k:Nat):Int)):=HRR.out.cell (j:=1) (by decide)
     have y1:=Blk.lt HRR.out
     generalize hke:k+rdSize t k=K2 at *
     clear r1 r2 hg HR5 HO5 HX5 HNW HW5 HS5 hke
     try simp only [Act.put,List.setIfInBounds_toArray,List.set_cons_succ,List.set_cons_zero]
     go_wp2_with fail
     go_roundw
     case rel=>exact ⟨l++[rdA t k],moreA l.length zs x,a2,c2,K2,by simp;omega,by simp,rfl,(by rw [show (l++[rdA t k]).length=l.length+1 by simp];exact HR6.out),HRR.out⟩
     case measure=>simp [lenOf];omega
    ·have hW2:Below w1.heap.size w1 (w1.alloc (.cells #[.int .i64 0,.int .i64 0,.int .i64 0,.int .i64 0,.int .i64 0,.slice none 0 0] 47)):=(Below.refl _ _).alloc (Nat.le_refl _) _
     have HD:Hid (∃ s:As,.slice a l.length c=s.val∧RepOK t w (w1.alloc (.cells #[.int .i64 0,.int .i64 0,.int .i64 0,.int .i64 0,.int .i64 0,.slice none 0 0] 47)) s∧repN t=k):=((HS.out.1.bt hB HS.out.2).below hW2).done HT.out (repF_no hno)
     clear HS hB hno hW2
     go_wp2_with fail
     obtain ⟨s,hv,hok,hN⟩:=HD.out
     refine bodyPost_ret (v := .tuple #[.slice a l.length c,.int .i64 (k:Int),.int .i64 0]) (by simp [results,Tryz.results17,go_sem]) rfl ?_
     exact ⟨s,by rw [hv,HE.out,hN],hok⟩
   ·have q2:¬ (l.length:Int)<60:=by omega
    have HD:Hid (∃ s:As,.slice a l.length c=s.val∧RepOK t w wr s∧repN t=k):=HS.out.1.done HT.out (by rw [show 60 - l.length=0 by omega];rfl)
    clear HS
    go_wp2_with fail
    obtain ⟨s,hv,hok,hN⟩:=HD.out
    refine bodyPost_ret (v := .tuple #[.slice a l.length c,.int .i64 (k:Int),.int .i64 0]) (by simp [results,Tryz.results17,go_sem]) rfl ?_
    exact ⟨s,by rw [hv,HE.out,hN],hok⟩
end Go.Proofs.YtbcacebifpagpagGreat
namespace Go.Proofs.YtbcacebifpagpagGreat
open Go.RowKit Go.Shelf Go.Sort
set_option linter.unusedVariables false
set_option maxRecDepth 100000 in
set_option maxHeartbeats 2000000 in
theorem allocCheck1_any (B1 B2 B3:Nat) (s:St) (order line:Int) (w:World) (hs:s.os.At w) (h1:B1<w.heap.size) (h2:B2<w.heap.size) (h3:B3<w.heap.size) (c1:w.cell? ⟨B1,1,none⟩=some (.slice s.os.a s.os.n s.os.c)) (c2:w.cell? ⟨B2,0,none⟩=some (.int .i64 order)) (c3:w.cell? ⟨B3,0,none⟩=some (.int .i64 line)) :
  Calls Tryz.prog 161 #[.pointer (some ⟨B1,0,none⟩),.pointer (some ⟨B2,0,none⟩),.pointer (some ⟨B3,0,none⟩)] w fun e w'=>e = .returned (.bool (missL s order line))∧Below w.heap.size w w':=by
 have ole:=hs.le
 have ocap0:=hs.cap
 have ocap:=ocap0
 unfold maxLen at ocap
 have hon:s.os.n≤maxLen:=Nat.le_trans ole ocap0
 have r1:∀ d os,(grow (redrawn w d) os).cell? ⟨B1,1,none⟩=some (.slice s.os.a s.os.n s.os.c):=fun d os=>cell_regrown c1 d os
 have r2:∀ d os,(grow (redrawn w d) os).cell? ⟨B2,0,none⟩=some (.int .i64 order):=fun d os=>cell_regrown c2 d os
 have r3:∀ d os,(grow (redrawn w d) os).cell? ⟨B3,0,none⟩=some (.int .i64 line):=fun d os=>cell_regrown c3 d os
 clear c1 c2 c3
 cases k1:inB order 0 ((s.os.n:Int) - 1)
 ·have HM:Hid (missL s order line=true):=by show missL s order line=true;unfold missL;rw [k1];rfl
  clear hs
  go_enter Tryz.func161,Tryz.ntmps161
  go_wp2_with fail
  refine wp_region_quiet_below (by kernel_rfl) (by kernel_rfl) ?_
  repeat (go_big_quiet_step ((go_at_call 71;exact Calls.regrown_of ((Has_any _ _ _ (by assumption)).mono (fun _ _ h=>⟨h.1,h.2 ▸ Below.refl _ _⟩)))))
  refine wpQuiet_nil ?_
  intro _ hw'
  obtain ⟨⟨dq,osq⟩,hw''⟩:=hw'
  subst hw''
  go_wp2_with fail
  go_ret
  exact ⟨by rw [HM.out];rfl,below_regrown _ _ _⟩
 ·obtain ⟨m,rfl⟩:=Int.eq_ofNat_of_zero_le (inB_true k1).1
  have hm:m<s.os.n:=by have:=(inB_true k1).2;omega
  obtain ⟨b,o,hoa,hb,z0,z1,hl⟩:=hs.ods m hm
  have HM:Hid (missL s (m:Int) line = !(inB line 0 (((s.os.z m).ls.n:Int) - 1))):=by show missL s (m:Int) line=_;unfold missL;rw [k1];rfl
  have lcap:=hl.cap
  have lle:=hl.le
  have hln:(s.os.z m).ls.n≤maxLen:=Nat.le_trans lle lcap
  have r5:∀ d os,(grow (redrawn w d) os).cell? ⟨b,o+m*2+1,none⟩=some (.slice (s.os.z m).ls.a (s.os.z m).ls.n (s.os.z m).ls.c):=fun d os=>cell_regrown z1 d os
  have m1:(0:Int)≤(m:Int):=by omega
  have m2:(m:Int)<(s.os.n:Int):=by omega
  rw [hoa] at r1
  unfold maxLen at lcap
  clear z0 z1 hl hs hoa
  generalize (s.os.z m).ls.n=LN at *
  generalize (s.os.z m).ls.c=LC at *
  generalize (s.os.z m).ls.a=LA at *
  cases k2:inB line 0 ((LN:Int) - 1)
  all_goals
   go_enter Tryz.func161,Tryz.ntmps161
   go_wp2_with fail
   refine wp_region_quiet_below (by kernel_rfl) (by kernel_rfl) ?_
   repeat (go_big_quiet_step ((go_at_call 71;exact Calls.regrown_of ((Has_any _ _ _ (by assumption)).mono (fun _ _ h=>⟨h.1,h.2 ▸ Below.refl _ _⟩)))))
   refine wpQuiet_nil ?_
   intro _ hw'
   obtain ⟨⟨dq,osq⟩,hw''⟩:=hw'
   subst hw''
   go_wp2_with fail
   go_ret
   exact ⟨by rw [HM.out,k2];simp,below_regrown _ _ _⟩
set_option maxRecDepth 100000 in
set_option maxHeartbeats 4000000 in
theorem allocCheck_any (p:Pl) (s:St) (order line n but:Int) (w:World) (hp:p.At w) (hs:s.At w) :
  Calls Tryz.prog 141 #[p.val,s.val,.int .i64 order,.int .i64 line,.int .i64 n,.int .i64 but] w fun e w'=>e = .returned (.int .i64 (allocE p s order line n but))∧Below w.heap.size w w':=by
 obtain ⟨W0,hW,hWB,X0,K2,K3⟩:∃ W,((((w.alloc (.cells #[.slice p.ab p.nb p.cb,.slice p.sa p.ns p.cs] 25)).alloc (.cells s.cells 31)).alloc (.cells #[.int .i64 order] 3)).alloc (.cells #[.int .i64 line] 3))=W∧Below w.heap.size w W∧Boxes W w.heap.size (w.heap.size+1) p s∧Blk W (w.heap.size+2) 3 1 (fun _ => .int .i64 order)∧Blk W (w.heap.size+3) 3 1 (fun _ => .int .i64 line) :=
  ⟨_,rfl,((two_below _ _ _).alloc (by simp;omega) _).alloc (by simp;omega) _,((boxes_new w p s _ _).below ((Below.refl _ _).alloc (Nat.le_refl _) _)).below ((Below.refl _ _).alloc (Nat.le_refl _) _),((Blk.mk' (cur:=#[.int .i64 order]) (by simp) rfl).congr (fun j hj=>by match j,hj with | 0,_=>rfl)).alloc _,(Blk.mk' (cur:=#[.int .i64 line]) (by simp) rfl).congr (fun j hj=>by match j,hj with | 0,_=>rfl)⟩
 have HC:Hid (∀ wk,Below W0.heap.size W0 wk→Boxes wk w.heap.size (w.heap.size+1) p s∧p.At wk∧s.At wk∧Below w.heap.size w wk∧Blk wk (w.heap.size+2) 3 1 (fun _ => .int .i64 order)∧Blk wk (w.heap.size+3) 3 1 (fun _ => .int .i64 line)):=fun wk h=>⟨X0.below h,(hp.below hWB).below h,(hs.below hWB).below h,hWB.trans (h.mono hWB.size),K2.below h,K3.below h⟩
 have HW:Hid ((((w.alloc (.cells #[.slice p.ab p.nb p.cb,.slice p.sa p.ns p.cs] 25)).alloc (.cells #[.slice s.on.a s.on.n s.on.c,.slice s.os.a s.os.n s.os.c,.slice s.hs.a s.hs.n s.hs.c,.slice s.ms.a s.ms.n s.ms.c,.slice s.si.a s.si.n s.si.c,.slice s.so.a s.so.n s.so.c,.slice s.sf.a s.sf.n s.sf.c] 31)).alloc (.cells #[.int .i64 order] 3)).alloc (.cells #[.int .i64 line] 3)=W0):=hW
 have leb:=hp.leb
 have capb0:=hp.capb
 have capb:=capb0
 unfold maxLen at capb
 have hnb:p.nb≤maxLen:=Nat.le_trans leb capb0
 clear hW X0 K2 K3 hp hs
 unfold Pl.val St.val
 go_enter Tryz.func141,Tryz.ntmps141
 go_wp2_with fail
 rw [HW.out]
 obtain ⟨X,hpk,hsk,hBw,-,-⟩:=HC.out W0 (Below.refl _ _)
 refine (stateCheck_any p s W0 hpk hsk).mono ?_
 rintro e w1 ⟨rfl,hB⟩
 clear X hpk hsk hBw HW
 obtain ⟨⟨⟨l1,d0,d1⟩,l2,c0,c1,c2,c3,c4,c5,c6⟩,hpk,hsk,hBw,k2,k3⟩:=HC.out w1 hB
 have HBW:Hid (Below w.heap.size w w1):=hBw
 clear hBw
 by_cases h0:stateE p s=0
 ·have H0:Hid (stateE p s=0):=h0
  have HF:Hid (Formed p s):=(rightT h0).fm
  rw [h0]
  clear h0
  have HCL:Hid (Calls Tryz.prog 161 #[.pointer (some ⟨w.heap.size+1,0,none⟩),.pointer (some ⟨w.heap.size+1+1,0,none⟩),.pointer (some ⟨w.heap.size+1+1+1,0,none⟩)] w1 fun e w'=>e = .returned (.bool (missL s order line))∧Below w1.heap.size w1 w'):=allocCheck1_any (w.heap.size+1) (w.heap.size+2) (w.heap.size+3) s order line w1 hsk.os l2 k2.lt k3.lt c1 (k2.cell (j:=0) (by decide)) (k3.cell (j:=0) (by decide))
  have eg:=enters_of Tryz.func161 (by kernel_rfl) rfl
  clear hpk hsk k2 k3 c0 c1 c2 c3 c4 c5 c6 d1
  go_wp2_with fail
  refine HCL.out.mono ?_
  rintro e w2 ⟨rfl,hB2⟩
  have hB3:=hB.trans (hB2.mono hB.size)
  clear l1 d0 l2 hB2 HCL HBW hB eg
  obtain ⟨⟨⟨l1,d0,d1⟩,l2,c0,c1,c2,c3,c4,c5,c6⟩,hpk,hsk,hBw,k2,k3⟩:=HC.out w2 hB3
  have HBW:Hid (Below w.heap.size w w2):=hBw
  clear hBw
  have HR:Hid (∀ a b c d,missL s order line=a→inB n 0 200=b→(but !=-1)=c→inB but 0 ((p.nb:Int) - 1)=d→allocR p s order line n but=(a || !b||(c && !d))):=fun a b c d e1 e2 e3 e4=>by unfold allocR;rw [e1,e2,e3,e4]
  cases m1:missL s order line
  ·have hml:=m1
   cases m2:inB n 0 200
   ·have HX:Hid (allocE p s order line n but=3):=allocE_range H0.out (by rw [HR.out _ _ _ _ m1 m2 rfl rfl];rfl)
    clear hpk hsk k2 k3 c0 c1 c2 c3 c4 c5 c6 m1 hml
    go_wp2_with (go_at_call 63;refine calls_to (Within_any _ _ _ _) ?_)
    go_ret
    exact ⟨by rw [HX.out];rfl,HBW.out⟩
   ·cases m3:(but !=-1)
    ·have HA:Hid (allocR p s order line n but=false):=by show allocR p s order line n but=false;rw [HR.out _ _ _ _ m1 m2 m3 rfl];rfl
     have hbx:=m3
     obtain ⟨a,b,-,-⟩:=allocR_no HA.out
     obtain ⟨o,rfl⟩:=Int.eq_ofNat_of_zero_le a.1
     obtain ⟨l,rfl⟩:=Int.eq_ofNat_of_zero_le b.1
     have ho:o<s.os.n:=a.2
     have hl:l<(s.os.z o).ls.n:=b.2
     obtain ⟨bo,oo,hoa,hbo,z0,z1,hlk⟩:=hsk.os.ods o ho
     obtain ⟨bl,ol,hla,hbl,y0,y1,y2,y3⟩:=hlk.hds l hl
     have u0:=k2.cell (j:=0) (by decide)
     have u1:=k3.cell (j:=0) (by decide)
     have u2:=k2.lt
     have u3:=k3.lt
     have q0:(0:Int)≤(o:Int):=by omega
     have q1:(o:Int)<(s.os.n:Int):=by omega
     have q2:(0:Int)≤(l:Int):=by omega
     have q3:(l:Int)<((s.os.z o).ls.n:Int):=by omega
     have v1:=hsk.os.le
     have v2:=hsk.os.cap
     have v3:=hlk.le
     have v4:=hlk.cap
     unfold maxLen at v2 v4
     have HT6:Hid (¬ (s.os.z o).k=1→allocE p s o l n but=6):=fun h=>allocE_done H0.out HA.out h
     have HT3:Hid ((s.os.z o).k=1→((s.os.z o).ls.z l).n<n→allocE p s o l n but=3):=fun h h'=>allocE_back H0.out HA.out h h'
     have HT0:Hid ((s.os.z o).k=1→¬ ((s.os.z o).ls.z l).n<n→allocE p s o l n but=0):=fun h h'=>allocE_ok H0.out HA.out h h'
     rw [hoa] at c1
     rw [hla] at z1
     clear hpk hsk k2 k3 c0 c2 c3 c4 c5 c6 m1 hoa hla hlk y0 y1 y2 a b HR
     generalize (s.os.z o).k=KD at *
     generalize ((s.os.z o).ls.z l).n=LB at *
     generalize (s.os.z o).ls.n=LN at *
     generalize (s.os.z o).ls.c=LC at *
     by_cases g1:KD=1
     ·have g2:(KD !=1)=false:=by rw [g1];rfl
      have t1:∀ d os,(grow (redrawn w2 d) os).cell? ⟨w.heap.size+1,1,none⟩=some (.slice (some ⟨bo,oo,none⟩) s.os.n s.os.c):=fun d os=>cell_regrown c1 d os
      have t2:∀ d os,(grow (redrawn w2 d) os).cell? ⟨w.heap.size+2,0,none⟩=some (.int .i64 (o:Int)):=fun d os=>cell_regrown u0 d os
      have t3:∀ d os,(grow (redrawn w2 d) os).cell? ⟨w.heap.size+3,0,none⟩=some (.int .i64 (l:Int)):=fun d os=>cell_regrown u1 d os
      have t4:∀ d os,(grow (redrawn w2 d) os).cell? ⟨bo,oo+o*2+1,none⟩=some (.slice (some ⟨bl,ol,none⟩) LN LC):=fun d os=>cell_regrown z1 d os
      have t5:∀ d os,(grow (redrawn w2 d) os).cell? ⟨bl,ol+l*4+3,none⟩=some (.int .i64 LB):=fun d os=>cell_regrown y3 d os
      have HTA:Hid (LB<n→allocE p s o l n but=3):=HT3.out g1
      have HTB:Hid (¬ LB<n→allocE p s o l n but=0):=HT0.out g1
      clear HT6 HT3 HT0 g1
      cases g3:decide (LB<n)
      ·have HX:Hid (allocE p s o l n but=0):=HTB.out (of_decide_eq_false g3)
       have g4:¬ LB<n:=of_decide_eq_false g3
       clear HTA HTB
       go_wp2_with (first | (go_at_call 63;refine calls_to (Within_any _ _ _ _) ?_) | (go_at_call 71;refine calls_to (Has_any _ _ _ hnb) ?_))
       refine wp_region_quiet_below (by kernel_rfl) (by kernel_rfl) ?_
       repeat (go_big_quiet_step (fail))
       refine wpQuiet_nil ?_
       intro _ hw'
       obtain ⟨⟨dq,osq⟩,hw''⟩:=hw'
       subst hw''
       go_wp2_with fail
       go_ret
       exact ⟨by rw [HX.out];rfl,HBW.out.trans ((below_regrown _ _ _).mono HBW.out.size)⟩
      ·have HX:Hid (allocE p s o l n but=3):=HTA.out (of_decide_eq_true g3)
       have g4:LB<n:=of_decide_eq_true g3
       clear HTA HTB
       go_wp2_with (first | (go_at_call 63;refine calls_to (Within_any _ _ _ _) ?_) | (go_at_call 71;refine calls_to (Has_any _ _ _ hnb) ?_))
       refine wp_region_quiet_below (by kernel_rfl) (by kernel_rfl) ?_
       repeat (go_big_quiet_step (fail))
       refine wpQuiet_nil ?_
       intro _ hw'
       obtain ⟨⟨dq,osq⟩,hw''⟩:=hw'
       subst hw''
       go_wp2_with fail
       go_ret
       exact ⟨by rw [HX.out];rfl,HBW.out.trans ((below_regrown _ _ _).mono HBW.out.size)⟩
     ·have HX:Hid (allocE p s o l n but=6):=HT6.out g1
      have g2:(KD !=1)=true:=by simpa using g1
      clear HT6 HT3 HT0 g1
      go_wp2_with (first | (go_at_call 63;refine calls_to (Within_any _ _ _ _) ?_) | (go_at_call 71;refine calls_to (Has_any _ _ _ hnb) ?_))
      go_ret
      exact ⟨by rw [HX.out];rfl,HBW.out⟩
    ·cases m4:inB but 0 ((p.nb:Int) - 1)
     ·have HX:Hid (allocE p s order line n but=3):=allocE_range H0.out (by rw [HR.out _ _ _ _ m1 m2 m3 m4];rfl)
      clear hpk hsk k2 k3 c0 c1 c2 c3 c4 c5 c6 m1 hml
      go_wp2_with (first | (go_at_call 63;refine calls_to (Within_any _ _ _ _) ?_) | (go_at_call 71;refine calls_to (Has_any _ _ _ hnb) ?_))
      go_ret
      exact ⟨by rw [HX.out];rfl,HBW.out⟩
     ·have HA:Hid (allocR p s order line n but=false):=by show allocR p s order line n but=false;rw [HR.out _ _ _ _ m1 m2 m3 m4];rfl
      obtain ⟨a,b,-,-⟩:=allocR_no HA.out
      obtain ⟨o,rfl⟩:=Int.eq_ofNat_of_zero_le a.1
      obtain ⟨l,rfl⟩:=Int.eq_ofNat_of_zero_le b.1
      have ho:o<s.os.n:=a.2
      have hl:l<(s.os.z o).ls.n:=b.2
      obtain ⟨bo,oo,hoa,hbo,z0,z1,hlk⟩:=hsk.os.ods o ho
      obtain ⟨bl,ol,hla,hbl,y0,y1,y2,y3⟩:=hlk.hds l hl
      have u0:=k2.cell (j:=0) (by decide)
      have u1:=k3.cell (j:=0) (by decide)
      have u2:=k2.lt
      have u3:=k3.lt
      have q0:(0:Int)≤(o:Int):=by omega
      have q1:(o:Int)<(s.os.n:Int):=by omega
      have q2:(0:Int)≤(l:Int):=by omega
      have q3:(l:Int)<((s.os.z o).ls.n:Int):=by omega
      have v1:=hsk.os.le
      have v2:=hsk.os.cap
      have v3:=hlk.le
      have v4:=hlk.cap
      unfold maxLen at v2 v4
      have HT6:Hid (¬ (s.os.z o).k=1→allocE p s o l n but=6):=fun h=>allocE_done H0.out HA.out h
      have HT3:Hid ((s.os.z o).k=1→((s.os.z o).ls.z l).n<n→allocE p s o l n but=3):=fun h h'=>allocE_back H0.out HA.out h h'
      have HT0:Hid ((s.os.z o).k=1→¬ ((s.os.z o).ls.z l).n<n→allocE p s o l n but=0):=fun h h'=>allocE_ok H0.out HA.out h h'
      rw [hoa] at c1
      rw [hla] at z1
      clear hpk hsk k2 k3 c0 c2 c3 c4 c5 c6 m1 hoa hla hlk y0 y1 y2 a b HR
      generalize (s.os.z o).k=KD at *
      generalize ((s.os.z o).ls.z l).n=LB at *
      generalize (s.os.z o).ls.n=LN at *
      generalize (s.os.z o).ls.c=LC at *
      by_cases g1:KD=1
      ·have g2:(KD !=1)=false:=by rw [g1];rfl
       have t1:∀ d os,(grow (redrawn w2 d) os).cell? ⟨w.heap.size+1,1,none⟩=some (.slice (some ⟨bo,oo,none⟩) s.os.n s.os.c):=fun d os=>cell_regrown c1 d os
       have t2:∀ d os,(grow (redrawn w2 d) os).cell? ⟨w.heap.size+2,0,none⟩=some (.int .i64 (o:Int)):=fun d os=>cell_regrown u0 d os
       have t3:∀ d os,(grow (redrawn w2 d) os).cell? ⟨w.heap.size+3,0,none⟩=some (.int .i64 (l:Int)):=fun d os=>cell_regrown u1 d os
       have t4:∀ d os,(grow (redrawn w2 d) os).cell? ⟨bo,oo+o*2+1,none⟩=some (.slice (some ⟨bl,ol,none⟩) LN LC):=fun d os=>cell_regrown z1 d os
       have t5:∀ d os,(grow (redrawn w2 d) os).cell? ⟨bl,ol+l*4+3,none⟩=some (.int .i64 LB):=fun d os=>cell_regrown y3 d os
       have HTA:Hid (LB<n→allocE p s o l n but=3):=HT3.out g1
       have HTB:Hid (¬ LB<n→allocE p s o l n but=0):=HT0.out g1
       clear HT6 HT3 HT0 g1
       cases g3:decide (LB<n)
       ·have HX:Hid (allocE p s o l n but=0):=HTB.out (of_decide_eq_false g3)
        have g4:¬ LB<n:=of_decide_eq_false g3
        clear HTA HTB
        go_wp2_with (first | (go_at_call 63;refine calls_to (Within_any _ _ _ _) ?_) | (go_at_call 71;refine calls_to (Has_any _ _ _ hnb) ?_))
        refine wp_region_quiet_below (by kernel_rfl) (by kernel_rfl) ?_
        repeat (go_big_quiet_step (fail))
        refine wpQuiet_nil ?_
        intro _ hw'
        obtain ⟨⟨dq,osq⟩,hw''⟩:=hw'
        subst hw''
        go_wp2_with fail
        go_ret
        exact ⟨by rw [HX.out];rfl,HBW.out.trans ((below_regrown _ _ _).mono HBW.out.size)⟩
       ·have HX:Hid (allocE p s o l n but=3):=HTA.out (of_decide_eq_true g3)
        have g4:LB<n:=of_decide_eq_true g3
        clear HTA HTB
        go_wp2_with (first | (go_at_call 63;refine calls_to (Within_any _ _ _ _) ?_) | (go_at_call 71;refine calls_to (Has_any _ _ _ hnb) ?_))
        refine wp_region_quiet_below (by kernel_rfl) (by kernel_rfl) ?_
        repeat (go_big_quiet_step (fail))
        refine wpQuiet_nil ?_
        intro _ hw'
        obtain ⟨⟨dq,osq⟩,hw''⟩:=hw'
        subst hw''
        go_wp2_with fail
        go_ret
        exact ⟨by rw [HX.out];rfl,HBW.out.trans ((below_regrown _ _ _).mono HBW.out.size)⟩
      ·have HX:Hid (allocE p s o l n but=6):=HT6.out g1
       have g2:(KD !=1)=true:=by simpa using g1
       clear HT6 HT3 HT0 g1
       go_wp2_with (first | (go_at_call 63;refine calls_to (Within_any _ _ _ _) ?_) | (go_at_call 71;refine calls_to (Has_any _ _ _ hnb) ?_))
       go_ret
       exact ⟨by rw [HX.out];rfl,HBW.out⟩
  ·have HX:Hid (allocE p s order line n but=3):=allocE_range H0.out (by rw [HR.out _ _ _ _ m1 rfl rfl rfl];rfl)
   clear hpk hsk k2 k3 c0 c1 c2 c3 c4 c5 c6 m1
   go_wp2_with fail
   go_ret
   exact ⟨by rw [HX.out];rfl,HBW.out⟩
 ·have HX:Hid (allocE p s order line n but=stateE p s):=allocE_state h0
  clear hpk hsk k2 k3 c0 c1 c2 c3 c4 c5 c6
  go_wp2_with fail
  go_ret
  exact ⟨by rw [HX.out];rfl,HBW.out⟩
end Go.Proofs.YtbcacebifpagpagGreat
namespace Go.Proofs.YtbcacebifpagpagGreat
open Go.RowKit Go.Shelf
set_option linter.unusedVariables false
attribute [local go_sem] Oper.semAt_some
theorem frL_prefix (p:Pl) (f:Bool) {k m:Nat} (h:k≤m):frL p f k <+: frL p f m:=by
 induction m with
 | zero=>rw [show k=0 by omega];exact List.prefix_refl _
 | succ m ih =>
  by_cases hk:k=m+1
  ·rw [hk];exact List.prefix_refl _
  ·refine (ih (by omega)).trans ?_
   by_cases hf:(p.zb m).front=f
   ·rw [frL_hit hf];exact List.prefix_append _ _
   ·rw [frL_miss hf];exact List.prefix_refl _
def keepsB (n₀ Bf:Nat) (A B:World):Prop:=Below n₀ A B∧(∀ v,A.cell? ⟨Bf,0,none⟩=some v→B.cell? ⟨Bf,0,none⟩=some v)
set_option maxRecDepth 100000 in
set_option maxHeartbeats 2000000 in
theorem binsOf1_in (F:Fence) (n:Nat) (h6:F.fn 149) (hro:F.round=none) (hn:1≤n) (l Bp Bf n₀:Nat) (p:Pl) (f:Bool) (J Jx:List Int→World→Prop)
  (hY:∀ pre x W,J pre W→pre.length<p.nb→YieldAt F (n - 1) Tryz.prog l #[.int .i64 x] W fun e W' =>
   (e = .returned (.bool true)∧J (pre++[x]) W'∧keepsB n₀ Bf W W')∨(e = .returned (.bool false)∧Jx (pre++[x]) W'))
  (W:World) (hJ:AbidesFrom W.heap.size J) (hn₀:n₀≤W.heap.size) (hBp:W.cell? ⟨Bp,0,none⟩=some (.slice p.ab p.nb p.cb)) (hBf:W.cell? ⟨Bf,0,none⟩=some (.bool f)) (hle:p.nb≤p.cb) (hcap:p.cb≤maxLen)
  (hL:∀ W',Below n₀ W W'→BinsAt W' p.ab p.nb p.zb) (h0:J [] W) :
  CallsIn F n Tryz.prog 149 #[.func (.yield l) #[] #[],.pointer (some ⟨Bp,0,none⟩),.pointer (some ⟨Bf,0,none⟩)] W fun e W'=>(∃ v,e = .returned v) ∧
   ((∃ ys,ys=frL p f p.nb∧J ys W')∨(∃ pre,pre <+: frL p f p.nb∧Jx pre W')):=by
 unfold maxLen at hcap
 have hS:Hid (∀ wr,Below n₀ W wr→W.heap.size≤wr.heap.size):=fun wr h=>h.size
 have HJA:Hid (∀ pre A o,J pre A→J pre (A.alloc o)):=fun pre A o h=>hJ pre A (A.alloc o) none h (World.grownBy_alloc A o none) (fun r e=>by cases e)
 refine callsIn_of_wp Tryz.func149 rfl h6 ?_ hro
 simp only [Tryz.ntmps149,List.size_toArray,List.length_cons,List.length_nil,Nat.reduceAdd,Nat.reduceSub,Array.replicate_succ,Array.replicate_zero,List.push_toArray,List.append_toArray,List.nil_append,List.cons_append]
 gi_wp2
 gi_loopw [9] (fun i wr=>∃ k:Nat,k≤p.nb∧i = .int .i64 k∧J (frL p f k) wr∧Below n₀ W wr∧wr.cell? ⟨Bf,0,none⟩=some (.bool f)) (fun i _=>p.nb - (intOf i).toNat)
 case atStart=>exact ⟨0,Nat.zero_le _,rfl,h0,Below.refl _ _,hBf⟩
 case round =>
  obtain ⟨k,hk,rfl,hJs,hB,hcf⟩:=hrel
  by_cases hlt:k<p.nb
  ·obtain ⟨b,o,hab,hb,z0,z1,z2,z3⟩:=hL _ hB k hlt
   have m1:(0:Int)≤(k:Int):=by omega
   have hltf:Bf<wr.heap.size:=World.block_lt_of_cell? wr _ hcf
   have hfl:=frL_len p f k
   rw [hab]
   clear hab
   by_cases hf:(p.zb k).front=f
   ·rw [hf] at z0
    have hJa:=HJA.out _ wr (.cells #[.bool f,.int .i64 (p.zb k).room,.int .i64 (p.zb k).low,.int .i64 (p.zb k).high] 68) hJs
    obtain ⟨fn,tmps,assign,body,hy,hR⟩:=hY (frL p f k) k _ hJa (by omega)
    gi_wp2
    refine hR.mono ?_
    rintro e W3 (⟨rfl,hJ3,hk3⟩ | ⟨rfl,hJx3⟩)
    ·have hB3:Below n₀ W W3:=(hB.alloc (Nat.le_trans hn₀ (hS.out wr hB)) _).trans hk3.1
     have hc3:W3.cell? ⟨Bf,0,none⟩=some (.bool f):=hk3.2 _ ((((Below.refl wr.heap.size wr).alloc (Nat.le_refl _) _).cell (p:=⟨Bf,0,none⟩) hltf).trans hcf)
     rw [← frL_hit hf] at hJ3
     clear hk3 hR
     gi_wp2
     go_roundw
     case rel=>exact ⟨k+1,by omega,by go_num,hJ3,hB3,hc3⟩
     case measure=>simp [intOf];omega
    ·rw [← frL_hit hf] at hJx3
     gi_wp2
     refine bodyPost_ret (results_none rfl _ _ _) rfl ?_
     exact ⟨⟨_,rfl⟩,.inr ⟨frL p f (k+1),frL_prefix p f (by omega),hJx3⟩⟩
   ·have hJa:=HJA.out _ wr (.cells #[.bool (p.zb k).front,.int .i64 (p.zb k).room,.int .i64 (p.zb k).low,.int .i64 (p.zb k).high] 68) hJs
    rw [← frL_miss hf] at hJa
    have hBa:=hB.alloc (Nat.le_trans hn₀ (hS.out wr hB)) (.cells #[.bool (p.zb k).front,.int .i64 (p.zb k).room,.int .i64 (p.zb k).low,.int .i64 (p.zb k).high] 68)
    have hca:=(((Below.refl wr.heap.size wr).alloc (Nat.le_refl _) (.cells #[.bool (p.zb k).front,.int .i64 (p.zb k).room,.int .i64 (p.zb k).low,.int .i64 (p.zb k).high] 68)).cell (p:=⟨Bf,0,none⟩) hltf).trans hcf
    have HA:Hid (J (frL p f (k+1)) (wr.alloc (.cells #[.bool (p.zb k).front,.int .i64 (p.zb k).room,.int .i64 (p.zb k).low,.int .i64 (p.zb k).high] 68))∧Below n₀ W (wr.alloc (.cells #[.bool (p.zb k).front,.int .i64 (p.zb k).room,.int .i64 (p.zb k).low,.int .i64 (p.zb k).high] 68))∧(wr.alloc (.cells #[.bool (p.zb k).front,.int .i64 (p.zb k).room,.int .i64 (p.zb k).low,.int .i64 (p.zb k).high] 68)).cell? ⟨Bf,0,none⟩=some (.bool f)):=⟨hJa,hBa,hca⟩
    clear hJa hBa hca
    gi_wp2
    refine ⟨fun _ h=>(by cases h),?_⟩
    gi_wp2
    go_roundw
    case rel=>exact ⟨k+1,by omega,by go_num,HA.out.1,HA.out.2.1,HA.out.2.2⟩
    case measure=>simp [intOf];omega
  ·gi_wp2
   go_end0
   have hkn:k=p.nb:=by omega
   subst hkn
   exact ⟨⟨_,rfl⟩,.inl ⟨_,rfl,hJs⟩⟩
attribute [local go_sem] Oper.semAt_some
theorem keepsB_t {n₀ Bf:Nat} {A B C:World} (h:keepsB n₀ Bf A B) (k:keepsB n₀ Bf B C):keepsB n₀ Bf A C:=⟨h.1.trans k.1,fun v hv=>k.2 v (h.2 v hv)⟩
theorem keepsB_b {n₀ Bf:Nat} {w:World} (hn:n₀≤w.heap.size) (hb:Bf<w.heap.size) (W:World) (l:Nat) (o o':Obj) (hl:w.heap.size≤l) (h:W.heap[l]?=some o) (h1:o.isCells=false) (h2:o.isWalk=false):keepsB n₀ Bf W (W.putObj l o') :=
 ⟨belowK_b hn W l o o' hl h h1 h2,fun v hv=>((belowK_b (Nat.le_refl _) W l o o' hl h h1 h2).cell (p:=⟨Bf,0,none⟩) hb).trans hv⟩
set_option maxRecDepth 100000 in
set_option maxHeartbeats 1000000 in
theorem binsOf_in (F:Fence) (n:Nat) (h5:F.fn 102) (hro:F.round=none) (p:Pl) (f:Bool) (w:World) :
  CallsIn F n Tryz.prog 102 #[p.val,.bool f] w fun e w'=>e = .returned (.func (.func 149) #[] #[.pointer (some ⟨w.heap.size,0,none⟩),.pointer (some ⟨w.heap.size+1,0,none⟩)])∧w'=(w.alloc (.cells #[.slice p.ab p.nb p.cb,.slice p.sa p.ns p.cs] 25)).alloc (.cells #[.bool f] 4):=by
 unfold Pl.val
 refine callsIn_of_wp Tryz.func102 rfl h5 ?_ hro
 simp only [Tryz.ntmps102,List.size_toArray,List.length_cons,List.length_nil,Nat.reduceAdd,Nat.reduceSub,Array.replicate_succ,Array.replicate_zero,List.push_toArray,List.append_toArray,List.nil_append,List.cons_append]
 gi_wp2
 go_ret
 exact ⟨rfl,rfl⟩
theorem binsOf_stops (F:Fence) (n:Nat) (h6:F.fn 149) (hro:F.round=none) (hn:1≤n) (Bp Bf n₀:Nat) (p:Pl) (f:Bool) (w:World) (hBp:Bp<w.heap.size) (hBf:Bf<w.heap.size) (hn₀:n₀≤w.heap.size)
  (hcp:w.cell? ⟨Bp,0,none⟩=some (.slice p.ab p.nb p.cb)) (hcf:w.cell? ⟨Bf,0,none⟩=some (.bool f)) (hle:p.nb≤p.cb) (hcap:p.cb≤maxLen) (hL:∀ W',Below n₀ w W'→BinsAt W' p.ab p.nb p.zb) :
  SeqStopsK F n Tryz.prog 149 #[.pointer (some ⟨Bp,0,none⟩),.pointer (some ⟨Bf,0,none⟩)] (fun x:Int=>#[Value.int .i64 x]) (keepsB n₀ Bf) (fun ys=>ys=frL p f p.nb) (fun pre=>pre <+: frL p f p.nb) p.nb w:=fun l J Jx W hW hJ _ hY h0 =>
 binsOf1_in F n h6 hro hn l Bp Bf n₀ p f J Jx hY W hJ (Nat.le_trans hn₀ hW.size) ((hW.cell (p:=⟨Bp,0,none⟩) hBp).trans hcp) ((hW.cell (p:=⟨Bf,0,none⟩) hBf).trans hcf) hle hcap (fun W' h=>hL W' ((hW.mono hn₀).trans h)) h0
attribute [local go_sem] Oper.semAt_some
set_option maxRecDepth 100000 in
set_option maxHeartbeats 2000000 in
theorem WayOwn_any (p:Pl) (w:World) (hp:p.At w) :
  Calls Tryz.prog 142 #[p.val] w fun e w'=>∃ v,e = .returned (.tuple #[v,.int .i64 (planE p)])∧w'.ownsRow w.heap.size 3 1 v (wayR p).length ((wayR p).map (Value.int .i64))∧Below w.heap.size w w':=by
 have leb:=hp.leb
 have capb0:=hp.capb
 have capb:=capb0
 unfold maxLen at capb
 have hB0:Below w.heap.size w (w.alloc (.cells #[.slice p.ab p.nb p.cb,.slice p.sa p.ns p.cs] 25)):=(Below.refl w.heap.size w).alloc (Nat.le_refl _) _
 obtain ⟨i1,hj,hy0,hy1,hy2⟩:=info_parts infoInt
 refine (callsIn_wide (n:=5)).1 ?_
 refine callsIn_of_wp_marks Tryz.func142 rfl trivial ?_ rfl
 simp only [Pl.val,Tryz.ntmps142,List.size_toArray,List.length_cons,List.length_nil,Nat.reduceAdd,Nat.reduceSub,Array.replicate_succ,Array.replicate_zero,List.push_toArray,List.append_toArray,List.nil_append,List.cons_append]
 by_cases h0:planE p=0
 ·have HC:Calls Tryz.prog 61 #[p.val] (w.alloc (.cells #[.slice p.ab p.nb p.cb,.slice p.sa p.ns p.cs] 25)) fun e w'=>e = .returned (.int .i64 0)∧Below (w.heap.size+1) (w.alloc (.cells #[.slice p.ab p.nb p.cb,.slice p.sa p.ns p.cs] 25)) w':=by
   have:=planCheck_any p _ (hp.below hB0)
   rw [h0,World.size_alloc] at this
   exact this
  have R:=rightP h0
  have hnb:=R.nb6
  have H0:Hid (planE p=0):=h0
  clear h0 R
  gi_wp2_with (first
   | (refine ⟨trivial,?_⟩;gi_at_call 61;refine (callsIn_wide.2 HC).mono ?_;rintro e w1 ⟨rfl,hB⟩;have hsz:=hB.size;have c0:w1.cell? ⟨w.heap.size,0,none⟩=some (.slice p.ab p.nb p.cb):=(hB.cell (p:=⟨w.heap.size,0,none⟩) (by simp)).trans (by simp);rw [World.size_alloc] at hsz)
   | (gi_at_make;refine wpListIn_make_own _ rfl _ _ 23 rfl (w.heap.size+1) 3 i1 (.int .i64 0) 1 Tryz.underlying23 hj hy0 hy1 .i64 .i64 _ p.nb rfl rfl rfl (by rw [hy2];omega) (by unfold maxLen;omega) (by omega) ?_;intro w2 hown2 hgrow2;have hB2:Below (w.heap.size+1) (w.alloc (.cells #[.slice p.ab p.nb p.cb,.slice p.sa p.ns p.cs] 25)) w2:=hB.grown hgrow2 (by omega) (by intro k hk;cases hk);have hsz2:=hB2.size;rw [World.size_alloc] at hsz2;have c0:w2.cell? ⟨w.heap.size,0,none⟩=some (.slice p.ab p.nb p.cb):=(hB2.cell (p:=⟨w.heap.size,0,none⟩) (by simp)).trans (by simp);have c1:w2.cell? ⟨w.heap.size,1,none⟩=some (.slice p.sa p.ns p.cs):=(hB2.cell (p:=⟨w.heap.size,1,none⟩) (by simp)).trans (by simp);have hlt2:w.heap.size<w2.heap.size:=by omega)
   | (refine ⟨trivial,?_⟩;gi_at_call 102;refine (binsOf_in Fence.wide _ trivial rfl p true _).mono ?_;rintro e w' ⟨rfl,rfl⟩))
  obtain ⟨W3,hW3,s3,bO,hrow0,bF,cP,hB3⟩:∃ W3,((w2.alloc (.cells #[(.slice (some ⟨w1.heap.size,0,none⟩) 0 p.nb)] 23)).alloc (.cells #[.slice p.ab p.nb p.cb,.slice p.sa p.ns p.cs] 25)).alloc (.cells #[.bool true] 4)=W3∧W3.heap.size=w2.heap.size+3∧_root_.Go.Boxed W3 w2.heap.size 23 (.slice (some ⟨w1.heap.size,0,none⟩) 0 p.nb)∧W3.ownsRow (w.heap.size+1) 3 1 (.slice (some ⟨w1.heap.size,0,none⟩) 0 p.nb) 0 []∧_root_.Go.Boxed W3 (w2.heap.size+1+1) 4 (.bool true)∧W3.cell? ⟨w2.heap.size+1,0,none⟩=some (.slice p.ab p.nb p.cb)∧Below (w.heap.size+1) (w.alloc (.cells #[.slice p.ab p.nb p.cb,.slice p.sa p.ns p.cs] 25)) W3:=by
   refine ⟨_,rfl,by simp,((_root_.Go.Boxed.new w2 23 _).alloc _).alloc _,((hown2.alloc _).alloc _).alloc _,?_,?_,((hB2.alloc hsz2 _).alloc (by simp;omega) _).alloc (by simp;omega) _⟩
   ·have:=_root_.Go.Boxed.new ((w2.alloc (.cells #[(.slice (some ⟨w1.heap.size,0,none⟩) 0 p.nb)] 23)).alloc (.cells #[.slice p.ab p.nb p.cb,.slice p.sa p.ns p.cs] 25)) 4 (.bool true)
    rwa [World.size_alloc,World.size_alloc] at this
   ·have:=((Blk.new (w2.alloc (.cells #[(.slice (some ⟨w1.heap.size,0,none⟩) 0 p.nb)] 23)) #[.slice p.ab p.nb p.cb,.slice p.sa p.ns p.cs] 25).alloc (.cells #[.bool true] 4)).cell (j:=0) (by simp)
    rwa [World.size_alloc] at this
  have HP:Hid (∀ W',Below (w.heap.size+1) (w.alloc (.cells #[.slice p.ab p.nb p.cb,.slice p.sa p.ns p.cs] 25)) W'→BinsAt W' p.ab p.nb p.zb):=fun W' h=>(hp.bins.below hB0).below (by rw [World.size_alloc];exact h)
  rw [hW3]
  clear hB c0 c1 hown2 hgrow2 hW3
  refine wpIn_rangeFunc_ownG rfl (by decide) (gf:=149) (lb:=#[.pointer (some ⟨w2.heap.size+1,0,none⟩),.pointer (some ⟨w2.heap.size+1+1,0,none⟩)]) rfl trivial (enters_of Tryz.func149 (by kernel_rfl) rfl)
   (binsOf_stops Fence.wide _ trivial rfl (by decide) (w2.heap.size+1) (w2.heap.size+1+1) (w.heap.size+1) p true W3 (by omega) (by omega) (by omega) cP bF.cell leb capb0 (fun W' h=>HP.out W' (hB3.trans h))) keepsB_t (keepsB_b (by omega) (by omega)) (Below.refl _ _) (fun _=>rfl)
   (fun pre W=>(∃ v,_root_.Go.Boxed W w2.heap.size 23 v∧W.ownsRow (w.heap.size+1) 3 1 v pre.length (pre.map (Value.int .i64))∧True)∧_root_.Go.Boxed W (w2.heap.size+1+1) 4 (.bool true)∧Below (w.heap.size+1) (w.alloc (.cells #[.slice p.ab p.nb p.cb,.slice p.sa p.ns p.cs] 25)) W)
   (fun _ _ _=>False)
   (OwnFrom.and (Own.from (holdsRow_own (w.heap.size+1) w2.heap.size 23 3 1 (fun pre:List Int=>pre.length) (fun pre=>pre.map (Value.int .i64)) (fun _ _=>True)) _) (OwnFrom.and (Own.from (boxed_own _ _ _) _) (ownFrom_below (by simp) (by omega))))
   (fun _ _ _ _ _ hs _ _=>hs)
   ⟨⟨_,bO,hrow0,trivial⟩,bF,hB3⟩
   (fun x=>{ tmps:=#[.agg #[.slice p.ab p.nb p.cb,.slice p.sa p.ns p.cs],.pointer (some ⟨w.heap.size,0,none⟩),.slice none 0 0,.int .i64 0,.int .i64 0,.pointer (some ⟨w2.heap.size,0,none⟩),.int .i64 x,undef,.agg #[.slice p.ab p.nb p.cb,.slice p.sa p.ns p.cs],.int .i64 0,.int .i64 0,.bool false,undef,.pointer (some ⟨w.heap.size,0,none⟩),.slice p.ab p.nb p.cb,.int .i64 p.nb,(.slice (some ⟨w1.heap.size,0,none⟩) 0 p.nb),.agg #[.slice p.ab p.nb p.cb,.slice p.sa p.ns p.cs],.func (.func 149) #[] #[.pointer (some ⟨w2.heap.size+1,0,none⟩),.pointer (some ⟨w2.heap.size+1+1,0,none⟩)],.int .i64 x,undef,undef,undef,undef,undef,undef,undef,undef,undef,undef,undef,undef],defers:=[] }) ?assign ?body ?done ?stop
  case assign =>
   intro l x W K hK
   gi_wp2
   exact hK
  case body =>
   rintro l pre x W ⟨⟨v,hv,hrow,-⟩,hbf,hBB⟩ hlt
   have hc:=hv.cell
   gi_wp2_with (gi_at_builtin;refine wpListIn_append_own _ rfl _ _ 23 rfl (w.heap.size+1) 3 i1 (.int .i64 0) 1 8 Tryz.underlying23 hj hy0 hy1 hy2 rfl (by decide) _ _ _ rfl (hrow.alloc _) ⟨W.heap.size,0,none⟩ 1 1 [.int .i64 x] rfl rfl (cell_one_new _ _ _) (by simp [Value.oneCell']) (by unfold maxLen;omega) (by omega) (by have:=hBB.size;simp at this ⊢;omega) ?_;intro v' w5 hown' hgrow _;obtain ⟨g',cap',rfl⟩:=ownsRow_succ hown';obtain ⟨hv1,hv2,hr2,hk2,hb2⟩:=hv.appended (by decide) hrow (by have:=hBB.size;simpa using this) hsz2 hown' hgrow;have hc1:=hv1.cell;have hf1:=hv1.frozen;have hF5:=(hbf.alloc _).kept hgrow (hbf.not_row (by decide) hrow))
   refine ⟨hk2.from _,⟨hb2,fun u hu => ?_⟩,⟨_,hv2,by simpa using hr2,trivial⟩,hF5.other (by omega) _,hBB.trans hb2⟩
   rw [hbf.cell] at hu
   cases hu
   exact (hF5.other (by omega) _).cell
  case done =>
   rintro D ys W4 hD rfl ⟨⟨v,hv,hrow,-⟩,-,hBB⟩ hK
   have c0:W4.cell? ⟨w.heap.size,0,none⟩=some (.slice p.ab p.nb p.cb):=(hBB.cell (p:=⟨w.heap.size,0,none⟩) (by simp)).trans (by simp)
   have c1:W4.cell? ⟨w.heap.size,1,none⟩=some (.slice p.sa p.ns p.cs):=(hBB.cell (p:=⟨w.heap.size,1,none⟩) (by simp)).trans (by simp)
   have hsz4:w.heap.size<W4.heap.size:=by have:=hBB.size;simp at this;omega
   gi_wp2_with (refine ⟨trivial,?_⟩;gi_at_call 102;refine (binsOf_in Fence.wide _ trivial rfl p false _).mono ?_;rintro e w' ⟨rfl,rfl⟩)
   have hsB:=hv.lt
   obtain ⟨W5,hW5,s5,bO,hrow5,bF,cP,hB5,hK5⟩:∃ W5,(W4.alloc (.cells #[.slice p.ab p.nb p.cb,.slice p.sa p.ns p.cs] 25)).alloc (.cells #[.bool false] 4)=W5∧W5.heap.size=W4.heap.size+2∧_root_.Go.Boxed W5 w2.heap.size 23 v∧W5.ownsRow (w.heap.size+1) 3 1 v (frL p true p.nb).length ((frL p true p.nb).map (Value.int .i64))∧_root_.Go.Boxed W5 (W4.heap.size+1) 4 (.bool false)∧W5.cell? ⟨W4.heap.size,0,none⟩=some (.slice p.ab p.nb p.cb)∧Below (w.heap.size+1) (w.alloc (.cells #[.slice p.ab p.nb p.cb,.slice p.sa p.ns p.cs] 25)) W5∧W5.heap[D]?=some (.deferred (some [])):=by
    refine ⟨_,rfl,by simp,(hv.alloc _).alloc _,(hrow.alloc _).alloc _,?_,?_,(hBB.alloc (by omega) _).alloc (by simp;omega) _,?_⟩
    ·have:=_root_.Go.Boxed.new (W4.alloc (.cells #[.slice p.ab p.nb p.cb,.slice p.sa p.ns p.cs] 25)) 4 (.bool false)
     rwa [World.size_alloc] at this
    ·exact ((Blk.new W4 #[.slice p.ab p.nb p.cb,.slice p.sa p.ns p.cs] 25).alloc (.cells #[.bool false] 4)).cell (j:=0) (by simp)
    ·have hD4:=(Array.getElem?_eq_some_iff.1 hK).1
     exact ((((Below.refl W4.heap.size W4).alloc (Nat.le_refl _) _).alloc (by simp) _).block D hD4).trans hK
   have hD4:=(Array.getElem?_eq_some_iff.1 hK).1
   have hfl:=frL_two p p.nb
   rw [hW5]
   clear hv hrow hBB hK c0 c1 hW5 hB3
   refine wpIn_rangeFunc_ownG rfl (by decide) (gf:=149) (lb:=#[.pointer (some ⟨W4.heap.size,0,none⟩),.pointer (some ⟨W4.heap.size+1,0,none⟩)]) rfl trivial (enters_of Tryz.func149 (by kernel_rfl) rfl)
    (binsOf_stops Fence.wide _ trivial rfl (by decide) W4.heap.size (W4.heap.size+1) (w.heap.size+1) p false W5 (by omega) (by omega) (by omega) cP bF.cell leb capb0 (fun W' h=>HP.out W' (hB5.trans h))) keepsB_t (keepsB_b (by omega) (by omega)) (Below.refl _ _) (fun _=>rfl)
    (fun pre W=>(∃ v,_root_.Go.Boxed W w2.heap.size 23 v∧W.ownsRow (w.heap.size+1) 3 1 v (frL p true p.nb++pre).length ((frL p true p.nb++pre).map (Value.int .i64))∧True)∧_root_.Go.Boxed W (W4.heap.size+1) 4 (.bool false)∧Below (w.heap.size+1) (w.alloc (.cells #[.slice p.ab p.nb p.cb,.slice p.sa p.ns p.cs] 25)) W∧W.heap[D]?=some (.deferred (some [])))
    (fun _ _ _=>False)
    (OwnFrom.and (Own.from (holdsRow_own (w.heap.size+1) w2.heap.size 23 3 1 (fun pre:List Int=>(frL p true p.nb++pre).length) (fun pre=>(frL p true p.nb++pre).map (Value.int .i64)) (fun _ _=>True)) _) (OwnFrom.and (Own.from (boxed_own _ _ _) _) (OwnFrom.and (ownFrom_below (by simp) (by omega)) (fun s A B row hs hg hr=>(hg.block D (Array.getElem?_eq_some_iff.1 hs).1 (fun e=>by have:=(hr D e.symm).1;omega)).trans hs))))
    (fun _ _ _ _ _ hs _ _=>hs)
    ⟨⟨_,bO,by simpa using hrow5,trivial⟩,bF,hB5,hK5⟩
    (fun x=>{ tmps:=#[.agg #[.slice p.ab p.nb p.cb,.slice p.sa p.ns p.cs],.pointer (some ⟨w.heap.size,0,none⟩),.slice none 0 0,.int .i64 0,.int .i64 0,.pointer (some ⟨w2.heap.size,0,none⟩),undef,.int .i64 x,.agg #[.slice p.ab p.nb p.cb,.slice p.sa p.ns p.cs],.int .i64 0,.int .i64 0,.bool false,undef,.pointer (some ⟨w.heap.size,0,none⟩),.slice p.ab p.nb p.cb,.int .i64 p.nb,(.slice (some ⟨w1.heap.size,0,none⟩) 0 p.nb),.agg #[.slice p.ab p.nb p.cb,.slice p.sa p.ns p.cs],.func (.func 149) #[] #[.pointer (some ⟨w2.heap.size+1,0,none⟩),.pointer (some ⟨w2.heap.size+1+1,0,none⟩)],undef,undef,undef,undef,undef,.agg #[.slice p.ab p.nb p.cb,.slice p.sa p.ns p.cs],.func (.func 149) #[] #[.pointer (some ⟨W4.heap.size,0,none⟩),.pointer (some ⟨W4.heap.size+1,0,none⟩)],.int .i64 x,undef,undef,undef,undef,undef],defers:=[] }) ?assign2 ?body2 ?done2 ?stop2
   case assign2 =>
    intro l x W K hK
    gi_wp2
    exact hK
   case body2 =>
    rintro l pre x W ⟨⟨v,hv,hrow,-⟩,hbf,hBB,hKD⟩ hlt
    have hc:=hv.cell
    have hll:(frL p true p.nb++pre).length≤2*p.nb:=by rw [List.length_append];omega
    gi_wp2_with (gi_at_builtin;refine wpListIn_append_own _ rfl _ _ 23 rfl (w.heap.size+1) 3 i1 (.int .i64 0) 1 8 Tryz.underlying23 hj hy0 hy1 hy2 rfl (by decide) _ _ _ rfl (hrow.alloc _) ⟨W.heap.size,0,none⟩ 1 1 [.int .i64 x] rfl rfl (cell_one_new _ _ _) (by simp [Value.oneCell']) (by unfold maxLen;omega) (by omega) (by have:=hBB.size;simp at this ⊢;omega) ?_;intro v' w5 hown' hgrow _;obtain ⟨g',cap',rfl⟩:=ownsRow_succ hown';obtain ⟨hv1,hv2,hr2,hk2,hb2⟩:=hv.appended (by decide) hrow (by have:=hBB.size;simpa using this) hsz2 hown' hgrow;have hc1:=hv1.cell;have hf1:=hv1.frozen;have hF5:=(hbf.alloc _).kept hgrow (hbf.not_row (by decide) hrow))
    simp only [List.length_append] at hv2 hr2 hk2 hb2
    refine ⟨hk2.from _,⟨hb2,fun u hu => ?_⟩,⟨_,hv2,by simpa [Nat.add_assoc] using hr2,trivial⟩,hF5.other (by omega) _,hBB.trans hb2,hk2.same D _ hKD rfl⟩
    rw [hbf.cell] at hu
    cases hu
    exact (hF5.other (by omega) _).cell
   case done2 =>
    rintro D2 ys W hD2 rfl ⟨⟨v,hv,hrow,-⟩,-,hBB,hK1⟩ hK2
    have hc:=hv.cell
    gi_wp2
    refine ⟨by simp,.inl ⟨_,_,rfl,run_takeDeferred hK2,?_⟩⟩
    have hne:D≠D2:=by omega
    have hK1':(W.putObj D2 (.deferred none)).heap[D]?=some (.deferred (some [])):=((grownBy_putObj' W D2 (.deferred none)).block D (Array.getElem?_eq_some_iff.1 hK1).1 (fun e=>hne (by cases e;rfl))).trans hK1
    refine ⟨by simp,.inl ⟨_,_,rfl,run_takeDeferred hK1',?_⟩⟩
    have hr2:=ownsRow_putObj (ownsRow_putObj hrow (.deferred none) hK2 rfl) (.deferred none) hK1' rfl
    have hb1:Below (w.heap.size+1) (w.alloc (.cells #[.slice p.ab p.nb p.cb,.slice p.sa p.ns p.cs] 25)) (W.putObj D2 (.deferred none)):=hBB.trans (belowK_b (w:=W5) (by omega) W D2 _ _ hD2 hK2 rfl rfl)
    have hb2:=hb1.trans (belowK_b (w:=W3) (by omega) (W.putObj D2 (.deferred none)) D _ (.deferred none) hD hK1' rfl rfl)
    rw [H0.out,wayR_yes H0.out]
    exact ⟨_,results_tmp2 rfl _ _ _,_,rfl,owns_low hr2 (Nat.le_succ _),hB0.trans (hb2.mono (by omega))⟩
   case stop2 =>
    rintro D c pre W _ _ h _
    exact h.elim
  case stop =>
   rintro D c pre W _ _ h _
   exact h.elim
 ·gi_wp2_with (refine ⟨trivial,?_⟩;gi_at_call 61;refine (callsIn_wide.2 (planCheck_any p _ (hp.below hB0))).mono ?_;rintro e w1 ⟨rfl,hB⟩)
  rw [wayR_no h0]
  exact ⟨_,results_tmp2 rfl _ _ _,_,rfl,World.ownsRow_nil _ _ _ _,hB0.trans (hB.mono (by simp))⟩
end Go.Proofs.YtbcacebifpagpagGreat
namespace Go.Proofs.YtbcacebifpagpagGreat
open Go.RowKit Go.Shelf Go.Sort
set_option linter.unusedVariables false
theorem Take1_any (B:Nat) (x but:Int) (w:World) (hB:B<w.heap.size) (c:w.cell? ⟨B,0,none⟩=some (.int .i64 but)) :
  Calls Tryz.prog 144 #[.int .i64 x,.pointer (some ⟨B,0,none⟩)] w fun e w'=>e = .returned (.bool (x==but))∧Below w.heap.size w w':=by
 go_enter Tryz.func144,Tryz.ntmps144
 go_wp2_with fail
 go_ret
 exact ⟨rfl,Below.refl _ _⟩
def TakeInv (s:St) (o l:Nat) (n:Int) (av:Int→Int) (F:List Int) (A BX BL g k:Nat) (wk:World):Prop :=
 ∃ x:St,Took s o l n (Tk.go av n (F.take k)) x∧OwnS A wk x∧Blk wk BX 31 7 (fun j=>x.cells.getD j default)∧Blk wk g 3 F.length (fun j => .int .i64 (F.getD j 0))∧(x.os.z o).ls.a=some ⟨BL,0,none⟩
theorem take_more {F:List Int} {k:Nat} (hk:k<F.length):F.take (k+1)=F.take k++[F.getD k 0]:=by
 rw [List.take_add_one]
 simp [List.getD,List.getElem?_eq_getElem hk]
theorem getD_mem {F:List Int} {k:Nat} (hk:k<F.length):F.getD k 0∈F:=by
 simp [List.getD,List.getElem?_eq_getElem hk]
theorem avail_okA {p:Pl} {s:St} {b g:Nat} (h:stateE p s=0) (hb:b<p.nb) (hg:g<p.ns):availE p s b g=0∧availV p s b g=availZ s b g:=by
 have e:availE p s b g=0:=by unfold availE;rw [if_pos h,inB_mk (by omega),inB_mk (by omega)];rfl
 exact ⟨e,by unfold availV;rw [if_pos e];rfl⟩
theorem avail_bdA {p:Pl} {s:St} {b g:Nat} (r:RightT p s) (hb:b<p.nb) (hg:g<p.ns):0≤availZ s b g∧availZ s b g≤200:=by
 have f:=r.fm
 refine ⟨(goods_no (r.goods g hg)).2 b hb,?_⟩
 have h1:=f.sh.num b (by rw [f.sh.n];exact hb) g hg
 have h2:=(heldTo_bd (s:=s) (b:=b) (g:=g) f.holdN).1
 have h3:=(fromTo_bd (s:=s) (b:=b) (g:=g) f.moveN).1
 unfold availZ
 omega
set_option maxRecDepth 100000 in
set_option maxHeartbeats 8000000 in
theorem Take_any (p:Pl) (s:St) (order line n but:Int) (w:World) (hp:p.At w) (hs:s.At w) :
  Calls Tryz.prog 96 #[p.val,s.val,.int .i64 order,.int .i64 line,.int .i64 n,.int .i64 but] w fun e w'=>∃ x:St,e = .returned (.tuple #[x.val,.int .i64 (allocL p s order line n but),.int .i64 (allocE p s order line n but)])∧x.At w'∧AllocOK p s order line n but x∧(allocE p s order line n but=0→OwnS w.heap.size w' x)∧Below w.heap.size w w':=by
 obtain ⟨W0,hW,hWB,X0,K0,Z0⟩:∃ W,((((w.alloc (.cells #[.slice p.ab p.nb p.cb,.slice p.sa p.ns p.cs] 25)).alloc (.cells s.cells 31)).alloc (.cells #[.int .i64 but] 3)).alloc (.cells #[.slice .none 0 0,.slice .none 0 0,.slice .none 0 0,.slice .none 0 0,.slice .none 0 0,.slice .none 0 0,.slice .none 0 0] 31))=W∧Below w.heap.size w W∧Boxes W w.heap.size (w.heap.size+1) p s∧Blk W (w.heap.size+2) 3 1 (fun _ => .int .i64 but)∧Blk W (w.heap.size+3) 31 7 (fun _ => .slice .none 0 0) :=
  ⟨_,rfl,((two_below _ _ _).alloc (by simp;omega) _).alloc (by simp;omega) _,((boxes_new w p s _ _).below ((Below.refl _ _).alloc (Nat.le_refl _) _)).below ((Below.refl _ _).alloc (Nat.le_refl _) _),((Blk.mk' (cur:=#[.int .i64 but]) (by simp) rfl).congr (fun j hj=>by match j,hj with | 0,_=>rfl)).alloc _,(Blk.mk' (cur:=#[.slice .none 0 0,.slice .none 0 0,.slice .none 0 0,.slice .none 0 0,.slice .none 0 0,.slice .none 0 0,.slice .none 0 0]) (by simp) rfl).congr (fun j hj=>by match j,hj with | 0,_=>rfl | 1,_=>rfl | 2,_=>rfl | 3,_=>rfl | 4,_=>rfl | 5,_=>rfl | 6,_=>rfl)⟩
 have HC:Hid (∀ wk,Below W0.heap.size W0 wk→Boxes wk w.heap.size (w.heap.size+1) p s∧p.At wk∧s.At wk∧Below w.heap.size w wk∧Blk wk (w.heap.size+3) 31 7 (fun _ => .slice .none 0 0)∧Blk wk (w.heap.size+2) 3 1 (fun _ => .int .i64 but)):=fun wk h=>⟨X0.below h,(hp.below hWB).below h,(hs.below hWB).below h,hWB.trans (h.mono hWB.size),Z0.below h,K0.below h⟩
 have HW:Hid ((((w.alloc (.cells #[.slice p.ab p.nb p.cb,.slice p.sa p.ns p.cs] 25)).alloc (.cells #[.slice s.on.a s.on.n s.on.c,.slice s.os.a s.os.n s.os.c,.slice s.hs.a s.hs.n s.hs.c,.slice s.ms.a s.ms.n s.ms.c,.slice s.si.a s.si.n s.si.c,.slice s.so.a s.so.n s.so.c,.slice s.sf.a s.sf.n s.sf.c] 31)).alloc (.cells #[.int .i64 but] 3)).alloc (.cells #[.slice .none 0 0,.slice .none 0 0,.slice .none 0 0,.slice .none 0 0,.slice .none 0 0,.slice .none 0 0,.slice .none 0 0] 31)=W0):=hW
 have leb:=hp.leb
 have capb0:=hp.capb
 have capb:=capb0
 have les:=hp.les
 have caps:=hp.caps
 have zlt0:=Z0.lt
 unfold maxLen at capb caps
 clear hW X0 Z0 K0 hp hs
 unfold Pl.val St.val
 go_enter Tryz.func96,Tryz.ntmps96
 go_wp2_with fail
 rw [HW.out]
 obtain ⟨X,hpk,hsk,hBw,hz,kb⟩:=HC.out W0 (Below.refl _ _)
 refine (allocCheck_any p s order line n but W0 hpk hsk).mono ?_
 rintro e w1 ⟨rfl,hB⟩
 clear X hpk hsk hBw hz kb HW
 obtain ⟨⟨⟨l1,d0,d1⟩,l2,c0,c1,c2,c3,c4,c5,c6⟩,hpk,hsk,hBw,hz,kb⟩:=HC.out w1 hB
 by_cases hE:allocE p s order line n but=0
 ·have HE:Hid (allocE p s order line n but=0):=hE
  have HI:Hid (AllocIn p s order line n but):=allocIn hE
  rw [hE]
  clear hE
  have HRT:Hid (RightT p s):=rightT HI.out.st
  have HP0:Hid (planE p=0):=(rightS HRT.out.fm.sh0).1
  obtain ⟨o,rfl⟩:=Int.eq_ofNat_of_zero_le HI.out.o0
  obtain ⟨l,rfl⟩:=Int.eq_ofNat_of_zero_le HI.out.l0
  have ho:o<s.os.n:=HI.out.on
  have hl:l<(s.os.z o).ls.n:=HI.out.ln
  have nb1:=HRT.out.fm.sh.pl.nb1
  have nb6:=HRT.out.fm.sh.pl.nb6
  have HPK:Hid (p.At w1):=hpk
  clear hpk hsk c0 c1 c2 c3 c4 c5 c6 hBw hz
  go_wp2_with fail
  refine (WayOwn_any p w1 HPK.out).mono ?_
  rintro e w2 ⟨v,rfl,hown,hB2⟩
  clear l1 d0 d1 l2 HPK
  rw [wayR_yes HP0.out] at hown
  have HWL:Hid ((wayL p).length=p.nb):=way_len p
  have hv:v ≠ .slice none 0 0:=by
   rintro rfl
   rcases hown.2 with ⟨_,h0⟩ | ⟨g2,cap2,cur2,h,_⟩
   ·have:=HWL.out;omega
   ·cases h
  obtain ⟨g,c,rfl,hc1,hc2,hg,hk⟩:=Blk.ofOwns hown hv
  have hk2:Blk w2 g 3 (wayL p).length (fun j => .int .i64 ((wayL p).getD j 0)):=by
   have h:=hk.less (m:=(wayL p).length) (by omega)
   refine h.congr fun j hj => ?_
   simp [List.getD,List.getElem?_eq_getElem hj]
  have HDF:Hid (Calls Tryz.prog 143 #[.slice (some ⟨g,0,none⟩) (wayL p).length c,.func (.func 144) #[] #[.pointer (some ⟨w.heap.size+1+1,0,none⟩)]] w2 fun e w'=>e = .returned (.slice (some ⟨g,0,none⟩) (wayT p but).length c)∧Blk w' g 3 (wayT p but).length (fun j => .int .i64 ((wayT p but).getD j 0))∧Below w1.heap.size w2 w') :=
   DelI_any 144 #[.pointer (some ⟨w.heap.size+1+1,0,none⟩)] (fun x=>x==but) w1.heap.size g c (wayL p) w2 hg hB2.size hc1 hc2 hk2 (enters_of Tryz.func144 (by kernel_rfl) rfl) (fun x wz hz=>by
    have hlt:=kb.lt
    exact Take1_any (w.heap.size+1+1) x but wz (Nat.lt_of_lt_of_le hlt (Nat.le_trans hB2.size hz.size)) ((hz.cell (p:=⟨w.heap.size+2,0,none⟩) hlt).trans ((hB2.cell (p:=⟨w.heap.size+2,0,none⟩) hlt).trans (kb.cell (j:=0) (by decide)))))
  rw [HP0.out]
  clear hown hv hk hk2
  go_wp2_with fail
  refine HDF.out.mono ?_
  rintro e w3 ⟨rfl,hk3,hB3⟩
  have hB13:=hB2.trans hB3
  have hB':=hB.trans (hB13.mono hB.size)
  have q13:=hB13.size
  have glt:=hk3.lt
  have HK3:Hid (Blk w3 g 3 (wayT p but).length (fun j => .int .i64 ((wayT p but).getD j 0))):=hk3
  have hF6:(wayT p but).length≤6:=by
   have:=HWL.out
   have:=List.length_filter_le (fun b => !(b==but)) (wayL p)
   unfold wayT
   omega
  have hFc:(wayT p but).length≤c:=by
   have:=List.length_filter_le (fun b => !(b==but)) (wayL p)
   unfold wayT
   omega
  clear HDF hk3 kb hB2 hB3 hB13 hB
  obtain ⟨⟨⟨l1,d0,d1⟩,l2,c0,c1,c2,c3,c4,c5,c6⟩,hpk,hsk,hBw,hz,kb⟩:=HC.out w3 hB'
  have HCS:Hid _:=copyState_any p s w3 hsk HRT.out.fm
  clear hpk hsk hBw hz kb
  go_wp2_with fail
  refine Calls.mono HCS.out ?_
  rintro e w4 ⟨x0,rfl,hsame,hown,hB4⟩
  clear HCS l1 d0 d1 l2 c0 c1 c2 c3 c4 c5 c6
  have q4:=hB4.size
  obtain ⟨W5,hW5,hWB5,K5⟩:∃ W,w4.alloc (.cells #[.slice x0.on.a x0.on.n x0.on.c,.slice x0.os.a x0.os.n x0.os.c,.slice x0.hs.a x0.hs.n x0.hs.c,.slice x0.ms.a x0.ms.n x0.ms.c,.slice x0.si.a x0.si.n x0.si.c,.slice x0.so.a x0.so.n x0.so.c,.slice x0.sf.a x0.sf.n x0.sf.c] 31)=W∧Below w4.heap.size w4 W∧Blk W w4.heap.size 31 7 (fun j=>x0.cells.getD j default):=⟨_,rfl,(Below.refl _ _).alloc (Nat.le_refl _) _,Blk.mk' rfl rfl⟩
  have HW5:Hid (w4.alloc (.cells #[.slice x0.on.a x0.on.n x0.on.c,.slice x0.os.a x0.os.n x0.os.c,.slice x0.hs.a x0.hs.n x0.hs.c,.slice x0.ms.a x0.ms.n x0.ms.c,.slice x0.si.a x0.si.n x0.si.c,.slice x0.so.a x0.so.n x0.so.c,.slice x0.sf.a x0.sf.n x0.sf.c] 31)=W5):=hW5
  have hB35:=hB4.trans (hWB5.mono hB4.size)
  have hB5:=hB'.trans (hB35.mono hB'.size)
  have hown5:=OwnS.below hown hWB5
  have hkF:=HK3.out.below hB35
  have ho0:o<x0.os.n:=by rw [hsame.os.1];exact ho
  have e0:=hsame.os.2 o ho0
  have hl0:l<(x0.os.z o).ls.n:=by rw [e0.2.1];exact hl
  obtain ⟨gO,BL,f1,f2,f3,f4,f5,f6,f7,f8,f9,f10,f11,f12,f13,f14⟩:=hown5.lineCell ho0 hl0
  have s1:W5.cell? ⟨w4.heap.size,1,none⟩=some (.slice x0.os.a x0.os.n x0.os.c):=K5.cell (j:=1) (by decide)
  have s2:=K5.lt
  have v1:=hown5.os.le
  have v2:=hown5.os.cap
  rw [f1] at s1
  have HINV:Hid (TakeInv s o l n (fun b=>availZ s b.toNat (lineAt s o l).o.toNat) (wayT p but) w3.heap.size w4.heap.size BL g 0 W5):=⟨x0,by rw [List.take_zero];exact Took.start HRT.out.fm.hold hsame,hown5,K5,hkF,f5⟩
  have qo:(0:Int)≤(o:Int):=by omega
  have ql:(0:Int)≤(l:Int):=by omega
  have HB5:Hid (Below W0.heap.size W0 W5∧W0.heap.size≤w3.heap.size∧w3.heap.size≤w4.heap.size∧g<w3.heap.size∧w3.heap.size≤BL):=⟨hB5,hB'.size,q4,glt,f6⟩
  rw [← HW5.out] at s1 s2 f3 f4 f7
  unfold maxLen at v2 f9
  clear hW5 hown hown5 hkF K5 hB4 hWB5 hB35 hB5 f1 f2 f5 f6 f10 f11 f12 f13 f14 e0 hsame HK3
  simp only [St.val]
  go_wp2_with fail
  rw [HW5.out]
  clear s1 s2 f3 f4 f7 HW5 hB' q4 q13 glt v1 v2 f8 f9
  generalize x0.os.n=XN at *
  go_loopw [4,56] (fun nv kv wk=>∃ k:Nat,k≤(wayT p but).length∧kv = .int .i64 k∧nv = .int .i64 (Tk.go (fun b=>availZ s b.toNat (lineAt s o l).o.toNat) n ((wayT p but).take k)).left∧Hid (TakeInv s o l n (fun b=>availZ s b.toNat (lineAt s o l).o.toNat) (wayT p but) w3.heap.size w4.heap.size BL g k wk)∧Hid (Below W0.heap.size W0 wk)) (fun _ kv _=>(wayT p but).length - (intOf kv).toNat)
  case atStart=>exact ⟨0,Nat.zero_le _,rfl,rfl,HINV,HB5.out.1⟩
  case round =>
   clear HINV
   obtain ⟨k,hk,rfl,rfl,HV,HBk⟩:=hrel
   have HTK:Hid (TkOK (fun b=>availZ s b.toNat (lineAt s o l).o.toNat) n ((wayT p but).take k) (Tk.go (fun b=>availZ s b.toNat (lineAt s o l).o.toNat) n ((wayT p but).take k))):=HI.out.tk ((wayT_apart p but).sublist (List.take_sublist _ _)) (fun x hx=>HI.out.way x (List.mem_of_mem_take hx))
   have H31EP:Hid (k<(wayT p but).length→Tk.go (fun b=>availZ s b.toNat (lineAt s o l).o.toNat) n ((wayT p but).take (k+1))=(Tk.go (fun b=>availZ s b.toNat (lineAt s o l).o.toNat) n ((wayT p but).take k)).step (fun b=>availZ s b.toNat (lineAt s o l).o.toNat) ((wayT p but).getD k 0)):=fun h=>by rw [take_more h,Tk.go_more]
   have HEND:Hid (k=(wayT p but).length→Tk.go (fun b=>availZ s b.toNat (lineAt s o l).o.toNat) n ((wayT p but).take k)=tkOf p s (lineAt s o l).o n but):=fun h=>by rw [h,List.take_length];rfl
   obtain ⟨x,hT,hO,hK,hF,hla⟩:=HV.out
   have HX:Hid (Took s o l n (Tk.go (fun b=>availZ s b.toNat (lineAt s o l).o.toNat) n ((wayT p but).take k)) x∧OwnS w3.heap.size wr x∧Blk wr w4.heap.size 31 7 (fun j=>x.cells.getD j default)∧Blk wr g 3 (wayT p but).length (fun j => .int .i64 ((wayT p but).getD j 0))∧(x.os.z o).ls.a=some ⟨BL,0,none⟩):=⟨hT,hO,hK,hF,hla⟩
   obtain ⟨T,hTd⟩:∃ T,Tk.go (fun b=>availZ s b.toNat (lineAt s o l).o.toNat) n ((wayT p but).take k)=T:=⟨_,rfl⟩
   rw [hTd] at HTK H31EP HEND HX ⊢
   clear hT hO hK hF hla HV hTd
   have tl0:=HTK.out.left0
   have tln:=HTK.out.leftn
   have nn2:=HI.out.n2
   by_cases hlt:k<(wayT p but).length
   ·have HS1:Hid _:=H31EP.out hlt
    obtain ⟨hbm0,hbm1⟩:=HI.out.way _ (getD_mem hlt)
    have z0:=HX.out.2.2.2.1.cell (j:=k) hlt
    have z1:=HX.out.2.2.2.1.lt
    obtain ⟨bv,hbv⟩:=Int.eq_ofNat_of_zero_le hbm0
    have HBV:Hid ((wayT p but).getD k 0=(bv:Int)):=hbv
    rw [hbv] at z0 hbm1
    have hbvn:bv<p.nb:=by omega
    have hgd:=HI.out.good
    obtain ⟨gd,hgv⟩:=Int.eq_ofNat_of_zero_le hgd.1
    have HGV:Hid ((lineAt s o l).o=(gd:Int)):=hgv
    have hgdn:gd<p.ns:=by omega
    have HAVL:Hid (∀ w',p.At w'→s.At w'→Calls Tryz.prog 105 #[p.val,s.val,.int .i64 (bv:Int),.int .i64 (gd:Int)] w' fun e w''=>e = .returned (.tuple #[.int .i64 (availZ s bv gd),.int .i64 0])∧Below w'.heap.size w' w''):=fun w' h1 h2=>by
     have h:=Avail_any p s bv gd w' h1 h2
     rw [(avail_okA HI.out.st hbvn hgdn).1,(avail_okA HI.out.st hbvn hgdn).2] at h
     exact h
    have avb:=avail_bdA HRT.out hbvn hgdn
    have HAV:Hid ((fun b:Int=>availZ s b.toNat (lineAt s o l).o.toNat) ((wayT p but).getD k 0)=availZ s bv gd):=by
     show availZ s ((wayT p but).getD k 0).toNat (lineAt s o l).o.toNat=_
     rw [hbv,hgv]
     rfl
    generalize hAVd:availZ s bv gd=AV at *
    clear hAVd
    have ho1:o<x.os.n:=by rw [HX.out.1.os.1];exact ho
    have ex:=HX.out.1.os.2 o ho1
    have hl1:l<(x.os.z o).ls.n:=by rw [ex.2.1];exact hl
    obtain ⟨gO,BL',f1,f2,f3,f4,f5,f6,f7,f8,f9,f10,f11,f12,f13,f14⟩:=HX.out.2.1.lineCell ho1 hl1
    rw [HX.out.2.2.2.2] at f5
    simp only [Option.some.injEq,Addr.mk.injEq,and_true] at f5
    subst f5
    have hgx:((x.os.z o).ls.z l).o=(gd:Int):=by
     rw [ex.2.2 l hl1,if_pos ⟨rfl,rfl⟩]
     exact hgv
    have hbx:((x.os.z o).ls.z l).n=(lineAt s o l).n - (n - T.left):=by
     rw [ex.2.2 l hl1,if_pos ⟨rfl,rfl⟩]
     rfl
    have HBX:Hid (((x.os.z o).ls.z l).n=(lineAt s o l).n - (n - T.left)):=hbx
    have hbl:=badLine_no (HRT.out.fm.line o ho l hl)
    have hbk0 : -1000≤((x.os.z o).ls.z l).n∧((x.os.z o).ls.z l).n≤1000:=by
     rw [hbx]
     have h1:(lineAt s o l).n=((s.os.z o).ls.z l).n:=rfl
     rw [h1]
     omega
    rw [hgx] at f11
    obtain ⟨⟨⟨l1,d0,d1⟩,l2,c0,c1,c2,c3,c4,c5,c6⟩,hpk,hsk,hBw,hz,kb⟩:=HC.out wr HBk.out
    have HPS:Hid (p.At wr∧s.At wr):=⟨hpk,hsk⟩
    have r0:∀ d os,(grow (redrawn wr d) os).cell? ⟨w.heap.size,0,none⟩=some (.slice p.ab p.nb p.cb):=fun d os=>cell_regrown d0 d os
    have r1:∀ d os,(grow (redrawn wr d) os).cell? ⟨w.heap.size,1,none⟩=some (.slice p.sa p.ns p.cs):=fun d os=>cell_regrown d1 d os
    have rs0:∀ d os,(grow (redrawn wr d) os).cell? ⟨w.heap.size+1,0,none⟩=some (.slice s.on.a s.on.n s.on.c):=fun d os=>cell_regrown c0 d os
    have rs1:∀ d os,(grow (redrawn wr d) os).cell? ⟨w.heap.size+1,1,none⟩=some (.slice s.os.a s.os.n s.os.c):=fun d os=>cell_regrown c1 d os
    have rs2:∀ d os,(grow (redrawn wr d) os).cell? ⟨w.heap.size+1,2,none⟩=some (.slice s.hs.a s.hs.n s.hs.c):=fun d os=>cell_regrown c2 d os
    have rs3:∀ d os,(grow (redrawn wr d) os).cell? ⟨w.heap.size+1,3,none⟩=some (.slice s.ms.a s.ms.n s.ms.c):=fun d os=>cell_regrown c3 d os
    have rs4:∀ d os,(grow (redrawn wr d) os).cell? ⟨w.heap.size+1,4,none⟩=some (.slice s.si.a s.si.n s.si.c):=fun d os=>cell_regrown c4 d os
    have rs5:∀ d os,(grow (redrawn wr d) os).cell? ⟨w.heap.size+1,5,none⟩=some (.slice s.so.a s.so.n s.so.c):=fun d os=>cell_regrown c5 d os
    have rs6:∀ d os,(grow (redrawn wr d) os).cell? ⟨w.heap.size+1,6,none⟩=some (.slice s.sf.a s.sf.n s.sf.c):=fun d os=>cell_regrown c6 d os
    have rl:∀ d os,(grow (redrawn wr d) os).cell? ⟨BL,l*4,none⟩=some (.int .i64 (gd:Int)):=fun d os=>cell_regrown f11 d os
    clear hbv hgv hgd hpk hsk hBw hz kb d0 d1 c0 c1 c2 c3 c4 c5 c6 l1 l2 f1 f2 f3 f4 f6 f8 f9 f10 f11 f12 f13 f14 ex hgx hbx hbl HEND hbm0 hbm1
    obtain ⟨BK,hBK⟩:∃ BK,((x.os.z o).ls.z l).n=BK:=⟨_,rfl⟩
    have HBK:Hid (((x.os.z o).ls.z l).n=BK):=hBK
    rw [hBK] at hbk0
    clear hBK
    obtain ⟨N,hN⟩:∃ N,T.left=N:=⟨_,rfl⟩
    have HN:Hid (T.left=N):=hN
    rw [hN] at tl0 tln ⊢
    clear hN
    have q0:(0:Int)≤(k:Int):=by omega
    have HMZ:Hid (∀ m,min N AV=m→min T.left ((fun b:Int=>availZ s b.toNat (lineAt s o l).o.toNat) ((wayT p but).getD k 0))=m):=fun m h=>by rw [HAV.out,HN.out];exact h
    go_wp2_with fail
    refine wp_region_quiet_below (by kernel_rfl) (by kernel_rfl) ?_
    repeat (go_big_quiet_step ((go_at_call 105;exact Calls.regrown_of (HAVL.out _ (HPS.out.1.below (below_regrown _ _ _)) (HPS.out.2.below (below_regrown _ _ _))))))
    refine wpQuiet_nil ?_
    intro w9 hw9
    have hB9:Below wr.heap.size wr w9:=by obtain ⟨⟨dq,osq⟩,hw''⟩:=hw9;subst hw'';exact below_regrown _ _ _
    clear hw9 r0 r1 rs0 rs1 rs2 rs3 rs4 rs5 rs6 rl HPS z0 z1 HAVL
    have HBk9:Hid (Below W0.heap.size W0 w9):=HBk.out.trans (hB9.mono HBk.out.size)
    have HX9:Hid (Took s o l n T x∧OwnS w3.heap.size w9 x∧Blk w9 w4.heap.size 31 7 (fun j=>x.cells.getD j default)∧Blk w9 g 3 (wayT p but).length (fun j => .int .i64 ((wayT p but).getD j 0))∧(x.os.z o).ls.a=some ⟨BL,0,none⟩):=⟨HX.out.1,OwnS.below HX.out.2.1 hB9,HX.out.2.2.1.below hB9,HX.out.2.2.2.1.below hB9,HX.out.2.2.2.2⟩
    clear hB9 HX HBk f7
    by_cases hm0:min AV N=0
    ·have hm1:min N AV=0:=by omega
     have HNX:Hid (TakeInv s o l n (fun b=>availZ s b.toNat (lineAt s o l).o.toNat) (wayT p but) w3.heap.size w4.heap.size BL g (k+1) w9∧(Tk.go (fun b=>availZ s b.toNat (lineAt s o l).o.toNat) n ((wayT p but).take (k+1))).left=N):=by
      refine ⟨⟨x,?_,HX9.out.2⟩,?_⟩
      ·rw [HS1.out]
       exact HX9.out.1.stepZero (HMZ.out 0 hm1)
      ·rw [HS1.out]
       show T.left - min T.left _=N
       rw [HMZ.out 0 hm1,HN.out]
       omega
     go_wp2_with fail
     go_roundw
     case rel=>exact ⟨k+1,by omega,by go_num,by rw [HNX.out.2],HNX.out.1,HBk9⟩
     case measure=>simp [intOf];omega
    ·obtain ⟨MV,hMV⟩:∃ MV,min AV N=MV:=⟨_,rfl⟩
     have HMV:Hid (min AV N=MV):=hMV
     have mv0:0<MV:=by omega
     have mv1:MV≤N:=by omega
     have mvd:(MV==0)=false:=by simp;omega
     have HM1:Hid (min N AV=MV):=by show min N AV=MV;omega
     have HAE:Hid (addE x.hs.n x.hs.z (tookH o l bv MV)=0):=by
      have h:=HX9.out.1.addE (p:=p) (order:=o) (line:=l) (but:=but) HI.out (fun x hx=>HI.out.way x (List.mem_of_mem_take hx)) HTK.out (b:=(bv:Int)) ⟨by omega,by omega⟩ mv0 (by rw [HN.out];exact mv1)
      exact h
     have KX:=HX9.out.2.2.1
     have y2:w9.cell? ⟨w4.heap.size,2,none⟩=some (.slice x.hs.a x.hs.n x.hs.c):=KX.cell (j:=2) (by decide)
     have y3:=KX.lt
     have HAD:Hid (Calls Tryz.prog 145 #[.slice x.hs.a x.hs.n x.hs.c,.agg #[.int .i64 (o:Int),.int .i64 (l:Int),.int .i64 (bv:Int),.int .i64 MV]] w9 fun e w'=>∃ s':Hs,e = .returned (.tuple #[s'.val,.int .i64 0])∧OwnH w9.heap.size 61 w' s'∧AddOK x.hs.n x.hs.z (tookH o l bv MV) s'∧Below w9.heap.size w9 w'):=by
      have h:=AddOwn_any x.hs (tookH o l bv MV) w9 HX9.out.2.1.hs.at
      rw [HAE.out] at h
      exact h
     clear KX hm0 HMV
     go_wp2_with fail
     refine HAD.out.mono ?_
     rintro e wa ⟨y,rfl,yown,yok,hBa⟩
     clear y2 y3 HAD hMV
     have q9:=HBk9.out.size
     have qa:=hBa.size
     obtain ⟨b1,b2,b3,b4,b5⟩:=HB5.out
     have hOa:=OwnS.below HX9.out.2.1 hBa
     have KA:=HX9.out.2.2.1.below hBa
     have FA:=HX9.out.2.2.2.1.below hBa
     have hBka:=HBk9.out.trans (hBa.mono HBk9.out.size)
     have hlt9:=HX9.out.2.2.1.lt
     have ho1:o<x.os.n:=by rw [HX9.out.1.os.1];exact ho
     have hOb:=(hOa.withHolds (yown.mono (by omega))).box KA 2 (.slice y.a y.n y.c)
     have KB:=KA.set 2 (.slice y.a y.n y.c)
     have FB:=FA.other (a:=⟨w4.heap.size,2,none⟩) (Blk.ne2 FA KA (by decide)) (.slice y.a y.n y.c)
     have hBb:=hBka.setCell (p:=⟨w4.heap.size,2,none⟩) (by show W0.heap.size≤w4.heap.size;omega) (.slice y.a y.n y.c)
     have hl1:l<(x.os.z o).ls.n:=by rw [(HX9.out.1.os.2 o ho1).2.1];exact hl
     obtain ⟨gO,BL',f1,f2,f3,f4,f5,f6,f7,f8,f9,f10,f11,f12,f13,f14⟩:=hOb.lineCell (o:=o) (l:=l) ho1 hl1
     have f5':(x.os.z o).ls.a=some ⟨BL',0,none⟩:=f5
     rw [HX9.out.2.2.2.2] at f5'
     simp only [Option.some.injEq,Addr.mk.injEq,and_true] at f5'
     subst f5'
     have f14':(wa.setCell ⟨w4.heap.size,2,none⟩ (.slice y.a y.n y.c)).cell? ⟨BL,l*4+3,none⟩=some (.int .i64 ((x.os.z o).ls.z l).n):=f14
     rw [HBK.out] at f14'
     have g14:=f10 (l*4+3)
     obtain ⟨B',hla',-,-,-,hlb⟩:=hOb.os.lines o ho1
     rw [f5] at hla'
     simp only [Option.some.injEq,Addr.mk.injEq,and_true] at hla'
     subst hla'
     have hOc:=hOb.setLine (o:=o) ho1 f5 l 3 (by decide) (BK - MV)
     have KC:=KB.other (a:=⟨BL,l*4+3,none⟩) (Blk.ne2 KB hlb (by decide)) (.int .i64 (BK - MV))
     have FC:=FB.other (a:=⟨BL,l*4+3,none⟩) (Blk.ne2 FB hlb (by decide)) (.int .i64 (BK - MV))
     have hBc:=hBb.setCell (p:=⟨BL,l*4+3,none⟩) (by show W0.heap.size≤BL;omega) (.int .i64 (BK - MV))
     have hTn:=HX9.out.1.stepAdd (av:=fun b=>availZ s b.toNat (lineAt s o l).o.toNat) (order:=o) (line:=l) (b:=(wayT p but).getD k 0) (m:=MV) ho hl (HMZ.out MV HM1.out) (by rw [HBV.out];exact HAE.out) (by rw [HBV.out];exact yok)
     have HNX:Hid (TakeInv s o l n (fun b=>availZ s b.toNat (lineAt s o l).o.toNat) (wayT p but) w3.heap.size w4.heap.size BL g (k+1) ((wa.setCell ⟨w4.heap.size,2,none⟩ (.slice y.a y.n y.c)).setCell ⟨BL,l*4+3,none⟩ (.int .i64 (BK - MV)))∧(Tk.go (fun b=>availZ s b.toNat (lineAt s o l).o.toNat) n ((wayT p but).take (k+1))).left=N - MV∧Below W0.heap.size W0 ((wa.setCell ⟨w4.heap.size,2,none⟩ (.slice y.a y.n y.c)).setCell ⟨BL,l*4+3,none⟩ (.int .i64 (BK - MV)))):=by
      refine ⟨⟨withHolds (setLine x o l 3 (BK - MV)) y,?_,hOc,KC.congr (fun j hj=>by match j,hj with | 0,_=>rfl | 1,_=>rfl | 2,_=>rfl | 3,_=>rfl | 4,_=>rfl | 5,_=>rfl | 6,_=>rfl),FC,?_⟩,?_,hBc⟩
      ·rw [HS1.out]
       have h:=hTn
       rw [show ((x.os.z ((o:Nat):Int).toNat).ls.z ((l:Nat):Int).toNat).n=BK from HBK.out] at h
       exact h
      ·exact ((setLine_n (s:=x) (o:=o) (l:=l) (c:=3) (v:=BK - MV) o).2.1).trans HX9.out.2.2.2.2
      ·rw [HS1.out]
       show T.left - min T.left _=N - MV
       rw [HMZ.out MV HM1.out,HN.out]
     have z1:=KA.lt
     have z2:=KA.frozen 2
     have z3:=KA.cell (j:=2) (by decide)
     clear hOa KA FA hBka hOb KB FB hBb f1 f2 f3 f4 f5 f6 f8 f9 f10 f11 f12 f13 f14 hlb hOc KC FC hBc hTn yown yok hBa HX9 HBk9 HTK HS1
     simp only [Hs.val]
     go_wp2_with fail
     go_roundw
     case rel=>exact ⟨k+1,by omega,by go_num,by rw [HNX.out.2.1],HNX.out.1,HNX.out.2.2⟩
     case measure=>simp [intOf];omega
   ·have hkn:k=(wayT p but).length:=by omega
    have HT:Hid (T=tkOf p s (lineAt s o l).o n but):=HEND.out hkn
    clear HEND
    have KX:=HX.out.2.2.1
    obtain ⟨m1,p0,p1,p2,p3,p4,p5,p6⟩:=Boxed.of KX
    obtain ⟨-,-,-,hBw,hz,-⟩:=HC.out wr HBk.out
    have HZ:Hid (Below w.heap.size w wr∧Blk wr (w.heap.size+3) 31 7 (fun _ => .slice .none 0 0)):=⟨hBw,hz⟩
    have zl:=hz.lt
    have zf0:=hz.frozen 0
    have zc0:=hz.cell (j:=0) (by decide)
    have zf1:=hz.frozen 1
    have zc1:=hz.cell (j:=1) (by decide)
    have zf2:=hz.frozen 2
    have zc2:=hz.cell (j:=2) (by decide)
    have zf3:=hz.frozen 3
    have zc3:=hz.cell (j:=3) (by decide)
    have zf4:=hz.frozen 4
    have zc4:=hz.cell (j:=4) (by decide)
    have zf5:=hz.frozen 5
    have zc5:=hz.cell (j:=5) (by decide)
    have zf6:=hz.frozen 6
    have zc6:=hz.cell (j:=6) (by decide)
    clear KX hBw hz
    go_wp2_with fail
    have KZ:=set7_blk HZ.out.2 (.slice x.on.a x.on.n x.on.c) (.slice x.os.a x.os.n x.os.c) (.slice x.hs.a x.hs.n x.hs.c) (.slice x.ms.a x.ms.n x.ms.c) (.slice x.si.a x.si.n x.si.c) (.slice x.so.a x.so.n x.so.c) (.slice x.sf.a x.sf.n x.sf.c)
    have hbz:=set7_below (b:=w.heap.size+3) HZ.out.1 (by omega) (.slice x.on.a x.on.n x.on.c) (.slice x.os.a x.os.n x.os.c) (.slice x.hs.a x.hs.n x.hs.c) (.slice x.ms.a x.ms.n x.ms.c) (.slice x.si.a x.si.n x.si.c) (.slice x.so.a x.so.n x.so.c) (.slice x.sf.a x.sf.n x.sf.c)
    have hOz:=OwnS.set7 HX.out.2.1 HZ.out.2 (.slice x.on.a x.on.n x.on.c) (.slice x.os.a x.os.n x.os.c) (.slice x.hs.a x.hs.n x.hs.c) (.slice x.ms.a x.ms.n x.ms.c) (.slice x.si.a x.si.n x.si.c) (.slice x.so.a x.so.n x.so.c) (.slice x.sf.a x.sf.n x.sf.c)
    unfold set7 at KZ hbz hOz
    obtain ⟨c0',c1',c2',c3',c4',c5',c6'⟩:=box_cells KZ
    refine bodyPost_ret (v := .tuple #[x.val,.int .i64 T.left,.int .i64 0]) (by simp [results,Tryz.results96,go_sem,St.val,c0',c1',c2',c3',c4',c5',c6']) rfl ?_
    have HL:allocL p s o l n but=T.left:=by rw [HT.out];exact if_pos HE.out
    refine ⟨x,by rw [HL,HE.out];rfl,hOz.at,⟨fun _ => ?_,fun h=>absurd HE.out h⟩,fun _=>hOz.mono ?_,hbz⟩
    ·rw [← HT.out];exact HX.out.1
    ·have:=(HC.out _ HB5.out.1).2.2.2.1.size
     have:=HB5.out.2.1
     omega
 ·have HX:Hid (allocL p s order line n but=0):=if_neg hE
  clear c0 c1 c2 c3 c4 c5 c6 hpk hsk kb
  have zl:=hz.lt
  have zf0:=hz.frozen 0
  have zc0:=hz.cell (j:=0) (by decide)
  have zf1:=hz.frozen 1
  have zc1:=hz.cell (j:=1) (by decide)
  have zf2:=hz.frozen 2
  have zc2:=hz.cell (j:=2) (by decide)
  have zf3:=hz.frozen 3
  have zc3:=hz.cell (j:=3) (by decide)
  have zf4:=hz.frozen 4
  have zc4:=hz.cell (j:=4) (by decide)
  have zf5:=hz.frozen 5
  have zc5:=hz.cell (j:=5) (by decide)
  have zf6:=hz.frozen 6
  have zc6:=hz.cell (j:=6) (by decide)
  go_wp2_with fail
  have KZ:=set7_blk hz (.slice .none 0 0) (.slice .none 0 0) (.slice .none 0 0) (.slice .none 0 0) (.slice .none 0 0) (.slice .none 0 0) (.slice .none 0 0)
  have hbz:=set7_below (b:=w.heap.size+3) hBw (by omega) (.slice .none 0 0) (.slice .none 0 0) (.slice .none 0 0) (.slice .none 0 0) (.slice .none 0 0) (.slice .none 0 0) (.slice .none 0 0)
  unfold set7 at KZ hbz
  obtain ⟨c0',c1',c2',c3',c4',c5',c6'⟩:=box_cells KZ
  refine bodyPost_ret (v := .tuple #[noneS.val,.int .i64 0,.int .i64 (allocE p s order line n but)]) (by simp [results,Tryz.results96,go_sem,noneS,St.val,c0',c1',c2',c3',c4',c5',c6']) rfl ?_
  exact ⟨noneS,by rw [HX.out];rfl,noneS_at _,⟨fun h=>absurd h hE,fun _=>⟨rfl,rfl,rfl,rfl,rfl,rfl,rfl⟩⟩,fun h=>absurd h hE,hbz⟩
structure RelI (p:Pl) (s y0:St) (A B7:Nat) (W0:World) (cur:St) (wk:World):Prop where
 own0:OwnS A wk y0
 own:OwnS A wk cur
 box:Blk wk B7 31 7 (fun j=>cur.cells.getD j default)
 bel:Below W0.heap.size W0 wk
 le:A≤wk.heap.size
theorem RelI.below {p:Pl} {s y0 cur:St} {A B7:Nat} {W0 wk wj:World} (h:RelI p s y0 A B7 W0 cur wk) (hB:Below wk.heap.size wk wj):RelI p s y0 A B7 W0 cur wj :=
 ⟨h.own0.below hB,h.own.below hB,h.box.below hB,h.bel.trans (hB.mono h.bel.size),Nat.le_trans h.le hB.size⟩
def RelA (p:Pl) (s:St) (i:Nat) (cur:St):Prop:=TkAll p (-1) (relQ s) (relM s) (relO s s.os.n) i cur
def RelB (p:Pl) (s:St) (i j:Nat) (cur:St):Prop:=∃ y,RelA p s i y∧TkRow p (-1) (relQ s) i y j cur
theorem RelB.next {p:Pl} {s cur:St} {i:Nat} (h:RelB p s i (s.os.z i).ls.n cur):RelA p s (i+1) cur:=h
theorem RelA.row {p:Pl} {s cur:St} {i:Nat} (h:RelA p s i cur):RelB p s i 0 cur:=⟨cur,h,rfl⟩
theorem RelA.skip {p:Pl} {s cur:St} {i:Nat} (r:RightT p s) (h:RelA p s i cur) (hi:i<s.os.n) (hk:¬ ((relO s s.os.n).os.z i).k=1):RelA p s (i+1) cur :=
 ⟨cur,h,TkRow.skip (rel_qin r) (TkAll.pos (rel_qin r) (fun a _=>relM_eq s a) (Nat.le_of_lt hi) h) hi (Nat.le_of_eq (relM_eq s i)) fun b _=>if_neg hk⟩
theorem RelB.pos {p:Pl} {s cur:St} {i j:Nat} (r:RightT p s) (h:RelB p s i j cur) (hi:i<s.os.n) (hj:j≤(s.os.z i).ls.n):Pos p (-1) (relQ s) (relO s s.os.n) i j cur:=by
 obtain ⟨y,h1,h2⟩:=h
 exact TkRow.pos (rel_qin r) (TkAll.pos (rel_qin r) (fun a _=>relM_eq s a) (Nat.le_of_lt hi) h1) hi (by rw [← relM_eq];exact hj) h2
theorem RelB.stepIn {p:Pl} {s cur:St} {i j:Nat} (r:RightT p s) (h:RelB p s i j cur) (hi:i<s.os.n) (hj:j<(s.os.z i).ls.n):StepIn p (-1) cur i j (relQ s i j) :=
 (h.pos r hi (Nat.le_of_lt hj)).stepIn (rel_qin r) hi (by rw [← relM_eq];exact hj)
theorem RelB.step {p:Pl} {s cur x:St} {i j:Nat} (h:RelB p s i j cur) (T:Step p (-1) cur i j (relQ s i j) x):RelB p s i (j+1) x:=by
 obtain ⟨y,h1,h2⟩:=h
 exact ⟨y,h1,cur,h2,T⟩
set_option maxRecDepth 100000 in
set_option maxHeartbeats 8000000 in
theorem Release_any (p:Pl) (s:St) (w:World) (hp:p.At w) (hs:s.At w) :
  Calls Tryz.prog 43 #[p.val,s.val] w fun e w'=>∃ x:St,e = .returned (.tuple #[x.val,.int .i64 (stateE p s)])∧x.At w'∧RelOK p s x∧(stateE p s=0→OwnS w.heap.size w' x)∧Below w.heap.size w w':=by
 obtain ⟨W0,hW,hWB,X0,Z0⟩:∃ W,(((w.alloc (.cells #[.slice p.ab p.nb p.cb,.slice p.sa p.ns p.cs] 25)).alloc (.cells s.cells 31)).alloc (.cells #[.slice .none 0 0,.slice .none 0 0,.slice .none 0 0,.slice .none 0 0,.slice .none 0 0,.slice .none 0 0,.slice .none 0 0] 31))=W∧Below w.heap.size w W∧Boxes W w.heap.size (w.heap.size+1) p s∧Blk W (w.heap.size+2) 31 7 (fun _ => .slice .none 0 0) :=
  ⟨_,rfl,(two_below _ _ _).alloc (by simp;omega) _,(boxes_new w p s _ _).below ((Below.refl _ _).alloc (Nat.le_refl _) _),(Blk.mk' (cur:=#[.slice .none 0 0,.slice .none 0 0,.slice .none 0 0,.slice .none 0 0,.slice .none 0 0,.slice .none 0 0,.slice .none 0 0]) (by simp) rfl).congr (fun j hj=>by match j,hj with | 0,_=>rfl | 1,_=>rfl | 2,_=>rfl | 3,_=>rfl | 4,_=>rfl | 5,_=>rfl | 6,_=>rfl)⟩
 have HC:Hid (∀ wk,Below W0.heap.size W0 wk→Boxes wk w.heap.size (w.heap.size+1) p s∧p.At wk∧s.At wk∧Below w.heap.size w wk∧Blk wk (w.heap.size+2) 31 7 (fun _ => .slice .none 0 0)):=fun wk h=>⟨X0.below h,(hp.below hWB).below h,(hs.below hWB).below h,hWB.trans (h.mono hWB.size),Z0.below h⟩
 have HW:Hid (((w.alloc (.cells #[.slice p.ab p.nb p.cb,.slice p.sa p.ns p.cs] 25)).alloc (.cells #[.slice s.on.a s.on.n s.on.c,.slice s.os.a s.os.n s.os.c,.slice s.hs.a s.hs.n s.hs.c,.slice s.ms.a s.ms.n s.ms.c,.slice s.si.a s.si.n s.si.c,.slice s.so.a s.so.n s.so.c,.slice s.sf.a s.sf.n s.sf.c] 31)).alloc (.cells #[.slice .none 0 0,.slice .none 0 0,.slice .none 0 0,.slice .none 0 0,.slice .none 0 0,.slice .none 0 0,.slice .none 0 0] 31)=W0):=hW
 have leb:=hp.leb
 have capb0:=hp.capb
 have les:=hp.les
 have caps0:=hp.caps
 have capb:=capb0
 have caps:=caps0
 have zlt0:=Z0.lt
 unfold maxLen at capb caps
 clear hW X0 Z0 hp hs
 unfold Pl.val St.val
 go_enter Tryz.func43,Tryz.ntmps43
 go_wp2_with fail
 rw [HW.out]
 obtain ⟨X,hpk,hsk,hBw,hz⟩:=HC.out W0 (Below.refl _ _)
 refine (stateCheck_any p s W0 hpk hsk).mono ?_
 rintro e w1 ⟨rfl,hB⟩
 clear X hpk hsk hBw hz HW
 obtain ⟨⟨⟨l1,d0,d1⟩,l2,c0,c1,c2,c3,c4,c5,c6⟩,hpk,hsk,hBw,hz⟩:=HC.out w1 hB
 by_cases h0:stateE p s=0
 ·have H0:Hid (stateE p s=0):=h0
  have HR:Hid (RightT p s):=rightT h0
  rw [h0]
  clear h0
  have HCS:Hid (Calls Tryz.prog 90 #[s.val] w1 fun e w'=>∃ s':St,e = .returned s'.val∧SameT s' s∧OwnS w1.heap.size w' s'∧Below w1.heap.size w1 w'):=copyState_any p s w1 hsk HR.out.fm
  clear hpk hsk hBw hz
  go_wp2_with fail
  refine Calls.mono HCS.out ?_
  rintro e w4 ⟨x0,rfl,hsame,hown,hB4⟩
  clear HCS l1 d0 d1 l2 c0 c1 c2 c3 c4 c5 c6
  obtain ⟨W5,hW5,hWB5,K5⟩:∃ W,w4.alloc (.cells #[.slice x0.on.a x0.on.n x0.on.c,.slice x0.os.a x0.os.n x0.os.c,.slice x0.hs.a x0.hs.n x0.hs.c,.slice x0.ms.a x0.ms.n x0.ms.c,.slice x0.si.a x0.si.n x0.si.c,.slice x0.so.a x0.so.n x0.so.c,.slice x0.sf.a x0.sf.n x0.sf.c] 31)=W∧Below w4.heap.size w4 W∧Blk W w4.heap.size 31 7 (fun j=>x0.cells.getD j default):=⟨_,rfl,(Below.refl _ _).alloc (Nat.le_refl _) _,Blk.mk' rfl rfl⟩
  have HW5:Hid (w4.alloc (.cells #[.slice x0.on.a x0.on.n x0.on.c,.slice x0.os.a x0.os.n x0.os.c,.slice x0.hs.a x0.hs.n x0.hs.c,.slice x0.ms.a x0.ms.n x0.ms.c,.slice x0.si.a x0.si.n x0.si.c,.slice x0.so.a x0.so.n x0.so.c,.slice x0.sf.a x0.sf.n x0.sf.c] 31)=W5):=hW5
  have hB15:=hB4.trans (hWB5.mono hB4.size)
  have hB5:=hB.trans (hB15.mono hB.size)
  have HO5:Hid (OwnS w1.heap.size W5 (relO x0 0)):=by show OwnS w1.heap.size W5 (relO x0 0);rw [relO_zero];exact OwnS.below hown hWB5
  have HS0:Hid (SameT x0 s):=hsame
  have s1:=K5.cell (j:=1) (by decide)
  have s1':W5.cell? ⟨w4.heap.size,1,none⟩=some (.slice x0.os.a x0.os.n x0.os.c):=s1
  have s2:=K5.lt
  have HK5:Hid (Blk W5 w4.heap.size 31 7 (fun j=>x0.cells.getD j default)):=K5
  have HB5:Hid (Below W0.heap.size W0 W5):=hB5
  have A1:W0.heap.size≤w1.heap.size:=hB.size
  have A2:w1.heap.size≤w4.heap.size:=hB4.size
  have A3:w1.heap.size≤W5.heap.size:=hB15.size
  have A27:w1.heap.size≤w4.heap.size:=hB4.size
  have ol:x0.os.n≤x0.os.c:=(OwnS.below hown hWB5).os.le
  have oc:x0.os.c≤maxLen:=(OwnS.below hown hWB5).os.cap
  unfold maxLen at oc
  have on4:x0.os.n≤4:=by rw [hsame.os.1];exact HR.out.fm.os4
  rw [← HW5.out] at s1' s2
  clear hW5 hown K5 hB4 hWB5 hB15 hB5 hsame hB s1
  simp only [St.val]
  go_wp2_with fail
  rw [HW5.out]
  clear s1' s2 HW5
  generalize w4.heap.size=B7 at *
  go_loopw [25] (fun kv wk=>∃ k:Nat,k≤x0.os.n∧kv = .int .i64 k∧Hid (OwnS w1.heap.size wk (relO x0 k))∧Hid (Blk wk B7 31 7 (fun j=>x0.cells.getD j default))∧Hid (Below W0.heap.size W0 wk)∧Hid (w1.heap.size≤wk.heap.size)) (fun kv _=>x0.os.n - (intOf kv).toNat)
  case atStart=>exact ⟨0,Nat.zero_le _,rfl,HO5,HK5,HB5,A3⟩
  case round =>
   clear HO5 HK5 HB5 A3
   obtain ⟨k,hk,rfl,HOk,HKk,HBk,HSk⟩:=hrel
   by_cases hlt:k<x0.os.n
   ·have q0:(0:Int)≤(k:Int):=by omega
    have q1:(k:Int)<(x0.os.n:Int):=by omega
    obtain ⟨gO,g1,g2,g3⟩:=HOk.out.os.list (by show 0<x0.os.n;omega)
    have g1':x0.os.a=some ⟨gO,0,none⟩:=g1
    have HG:Hid ((relO x0 k).os.a=some ⟨gO,0,none⟩):=g1
    have u1:wr.cell? ⟨B7,1,none⟩=some (.slice x0.os.a x0.os.n x0.os.c):=HKk.out.cell (j:=1) (by decide)
    rw [g1'] at u1
    have u2:=HKk.out.lt
    have u3:=g3.lt
    have HBD:Hid (∀ j,j<((relO x0 k).os.z k).ls.n→(0≤(((relO x0 k).os.z k).ls.z j).l∧(((relO x0 k).os.z k).ls.z j).l≤200)∧0≤(((relO x0 k).os.z k).ls.z j).b∧(((relO x0 k).os.z k).ls.z j).b≤200):=by
     show ∀ j,j<(relOd k k (x0.os.z k)).ls.n→(0≤((relOd k k (x0.os.z k)).ls.z j).l∧((relOd k k (x0.os.z k)).ls.z j).l≤200)∧0≤((relOd k k (x0.os.z k)).ls.z j).b∧((relOd k k (x0.os.z k)).ls.z j).b≤200
     rw [relOd_later _ (Nat.le_refl _)]
     intro j hj
     have e:=HS0.out.os.2 k hlt
     have hl:=badLine_no (HR.out.fm.line k (by rw [← HS0.out.os.1];exact hlt) j (by rw [← e.2.1];exact hj))
     rw [e.2.2 j hj]
     omega
    clear g1 g1' g3
    go_wp2_with fail
    refine (release_any (relO x0 k) k w1.heap.size gO wr HSk.out HOk.out hlt HG.out HBD.out).mono ?_
    rintro e w6 ⟨y,rfl,y0,y1,hO6,hB6,hK6⟩
    have HN:Hid (OwnS w1.heap.size w6 (relO x0 (k+1))∧Blk w6 B7 31 7 (fun j=>x0.cells.getD j default)∧Below W0.heap.size W0 w6∧w1.heap.size≤w6.heap.size):=by
     refine ⟨?_,hK6 _ _ _ _ (by decide) (by decide) HKk.out,HBk.out.trans (hB6.mono A1),Nat.le_trans HSk.out hB6.size⟩
     have e:((relO x0 k).os.z k).k=(x0.os.z k).k:=by show (relOd k k (x0.os.z k)).k=_;rw [relOd_later _ (Nat.le_refl _)]
     by_cases c:(x0.os.z k).k=0
     ·rw [← relO_hit c,← y0 (by rw [e];exact c)];exact hO6
     ·rw [← relO_miss c,← y1 (by rw [e];exact c)];exact hO6
    clear y0 y1 hO6 hB6 hK6 HOk HKk HBk HSk u1 u2 u3 HBD HG
    go_wp2_with fail
    go_roundw
    case rel=>exact ⟨k+1,by omega,by go_num,HN.out.1,HN.out.2.1,HN.out.2.2.1,HN.out.2.2.2⟩
    case measure=>simp [intOf];omega
   ·have hkn:k=x0.os.n:=by omega
    subst hkn
    obtain ⟨y0,ya,yn,yc,HI,HYS⟩:∃ y:St,x0.os.a=y.os.a∧x0.os.n=y.os.n∧x0.os.c=y.os.c∧Hid (RelI p s y w1.heap.size B7 W0 y wr)∧Hid (SameT y (relO s s.os.n)):=⟨relO x0 x0.os.n,rfl,rfl,rfl,⟨HOk.out,HOk.out,HKk.out,HBk.out,HSk.out⟩,by have h:=relO_same HS0.out x0.os.n;rw [HS0.out.os.1] at h ⊢;exact h⟩
    have u1:wr.cell? ⟨B7,1,none⟩=some (.slice x0.os.a x0.os.n x0.os.c):=HKk.out.cell (j:=1) (by decide)
    have u2:=HKk.out.lt
    go_wp2_with fail
    rw [ya,yn,yc]
    rw [yn,yc] at ol
    rw [yc] at oc
    rw [yn] at on4
    clear u1 u2 ya yn yc HOk HKk HBk HSk HS0 hk hlt
    go_loopw [37] (fun kv wk=>∃ (i:Nat) (cur:St),i≤y0.os.n∧kv = .int .i64 i∧Hid (RelI p s y0 w1.heap.size B7 W0 cur wk)∧Hid (RelA p s i cur)) (fun kv _=>y0.os.n - (intOf kv).toNat)
    case atStart=>exact ⟨0,y0,Nat.zero_le _,rfl,HI,HYS.out⟩
    case round =>
     clear HI
     obtain ⟨i,cur,hi,rfl,HI,HA⟩:=hrel
     by_cases hlt:i<y0.os.n
     ·have q0:(0:Int)≤(i:Int):=by omega
      have q1:(i:Int)<(y0.os.n:Int):=by omega
      obtain ⟨bo,oo,hoa,hbo,z0,z1,hlk⟩:=HI.out.own0.at.os.ods i hlt
      have eo:=HYS.out.os.2 i hlt
      have his:i<s.os.n:=by have:=HYS.out.os.1;show i<s.os.n;exact this ▸ hlt
      have HEN:Hid ((y0.os.z i).ls.n=(s.os.z i).ls.n):=eo.2.1.trans (relM_eq s i).symm
      have HEK:Hid ((y0.os.z i).k=((relO s s.os.n).os.z i).k):=eo.1
      have HEL:Hid (∀ j,j<(y0.os.z i).ls.n→((y0.os.z i).ls.z j).n=(((relO s s.os.n).os.z i).ls.z j).n):=fun j hj=>by rw [eo.2.2 j hj]
      have ll:=hlk.le
      have lc:=hlk.cap
      unfold maxLen at lc
      have ln3:(y0.os.z i).ls.n≤3:=by rw [HEN.out];exact (HR.out.fm.lns i his).2
      rw [hoa]
      clear hoa eo
      obtain ⟨W,hW,hWB⟩:∃ W,wr.alloc (.cells #[.int .i64 (y0.os.z i).k,.slice (y0.os.z i).ls.a (y0.os.z i).ls.n (y0.os.z i).ls.c] 57)=W∧Below wr.heap.size wr W:=⟨_,rfl,(Below.refl _ _).alloc (Nat.le_refl _) _⟩
      have HW:Hid (wr.alloc (.cells #[.int .i64 (y0.os.z i).k,.slice (y0.os.z i).ls.a (y0.os.z i).ls.n (y0.os.z i).ls.c] 57)=W):=hW
      have HIW:Hid (RelI p s y0 w1.heap.size B7 W0 cur W):=HI.out.below hWB
      have HLK:Hid ((y0.os.z i).ls.At W):=hlk.below hWB
      clear hW hlk
      by_cases hk:(y0.os.z i).k=1
      ·have HK1:Hid (((relO s s.os.n).os.z i).k=1):=by rw [← HEK.out];exact hk
       rw [hk] at z0 HW
       clear hk HEK
       go_wp2_with fail
       rw [HW.out]
       clear z0 z1 hbo HW q0 q1
       go_loopw [48] (fun jv wk=>∃ (j:Nat) (cr:St),j≤(y0.os.z i).ls.n∧jv = .int .i64 j∧Hid (RelI p s y0 w1.heap.size B7 W0 cr wk)∧Hid ((y0.os.z i).ls.At wk)∧Hid (RelB p s i j cr)) (fun jv _=>(y0.os.z i).ls.n - (intOf jv).toNat)
       case atStart=>exact ⟨0,cur,Nat.zero_le _,rfl,HIW,HLK,HA.out.row⟩
       case round =>
        clear HIW HLK HI HA
        obtain ⟨j,cr,hj,rfl,HI,HLK,HB⟩:=hrel
        by_cases hjl:j<(y0.os.z i).ls.n
        ·have q2:(0:Int)≤(j:Int):=by omega
         have q3:(j:Int)<((y0.os.z i).ls.n:Int):=by omega
         obtain ⟨bl,ob,hla,hbl,y1,y2,y3,y4⟩:=HLK.out.hds j hjl
         rw [hla]
         have hjs:j<(s.os.z i).ls.n:=by rw [← HEN.out];exact hjl
         have HQ:Hid (relQ s i j=((y0.os.z i).ls.z j).n):=by show relQ s i j=_;rw [HEL.out j hjl];exact if_pos HK1.out
         have HSI:Hid (StepIn p (-1) cr i j ((y0.os.z i).ls.z j).n):=by show StepIn _ _ _ _ _ _;rw [← HQ.out];exact HB.out.stepIn HR.out his hjs
         have HK2:Hid ((cr.os.z i).k=1):=((HB.out.pos HR.out his (Nat.le_of_lt hjs)).al.kind i his).1.trans HK1.out
         have HE0:Hid (allocE p cr i j ((y0.os.z i).ls.z j).n (-1)=0):=by have I:=HSI.out.allocIn HK2.out;exact I.less ⟨I.n0,Int.le_refl _⟩
         have HST:Hid (∀ x,Step p (-1) cr i j ((y0.os.z i).ls.z j).n x→RelB p s i (j+1) x):=fun x T=>HB.out.step (by rw [HQ.out];exact T)
         clear hla HSI HK2 HB
         generalize (y0.os.z i).ls.z j=Z at *
         obtain ⟨W2,hW2,hWB2⟩:∃ W,wr.alloc (.cells #[.int .i64 Z.o,.int .i64 Z.l,.int .i64 Z.b,.int .i64 Z.n] 59)=W∧Below wr.heap.size wr W:=⟨_,rfl,(Below.refl _ _).alloc (Nat.le_refl _) _⟩
         have HW2:Hid (wr.alloc (.cells #[.int .i64 Z.o,.int .i64 Z.l,.int .i64 Z.b,.int .i64 Z.n] 59)=W2):=hW2
         have HI2:Hid (RelI p s y0 w1.heap.size B7 W0 cr W2):=HI.out.below hWB2
         have HLK2:Hid ((y0.os.z i).ls.At W2):=HLK.out.below hWB2
         obtain ⟨⟨⟨l1,d0,d1⟩,l2,c0,c1,c2,c3,c4,c5,c6⟩,hpk,hsk,hBw,hz⟩:=HC.out W2 HI2.out.bel
         obtain ⟨m1,p0,p1,p2,p3,p4,p5,p6⟩:=Boxed.of HI2.out.box
         have HPK:Hid (p.At W2):=hpk
         clear hW2 hWB2 hpk hsk hBw hz l2 c0 c1 c2 c3 c4 c5 c6 HI HLK
         rw [← HW2.out] at l1 d0 d1 m1 p0 p1 p2 p3 p4 p5 p6
         go_wp2_with fail
         rw [HW2.out]
         clear HW2 l1 d0 d1 m1 p0 p1 p2 p3 p4 p5 p6 hbl y1 y2 y3 y4
         refine (Take_any p cr i j Z.n (-1) W2 HPK.out HI2.out.own.at).mono ?_
         rintro e w8 ⟨x,rfl,xat,xok,xown,hB8⟩
         have HT:Hid (RelB p s i (j+1) x):=HST.out x (xok.1 HE0.out)
         have HOX:Hid (OwnS w1.heap.size w8 x):=(xown HE0.out).mono HI2.out.le
         have HI8:Hid (RelI p s y0 w1.heap.size B7 W0 cr w8):=HI2.out.below hB8
         have HLK8:Hid ((y0.os.z i).ls.At w8):=HLK2.out.below hB8
         have hb8:=HI8.out.box
         have zl:=hb8.lt
         have zf0:=hb8.frozen 0
         have zc0:=hb8.cell (j:=0) (by decide)
         have zf1:=hb8.frozen 1
         have zc1:=hb8.cell (j:=1) (by decide)
         have zf2:=hb8.frozen 2
         have zc2:=hb8.cell (j:=2) (by decide)
         have zf3:=hb8.frozen 3
         have zc3:=hb8.cell (j:=3) (by decide)
         have zf4:=hb8.frozen 4
         have zc4:=hb8.cell (j:=4) (by decide)
         have zf5:=hb8.frozen 5
         have zc5:=hb8.cell (j:=5) (by decide)
         have zf6:=hb8.frozen 6
         have zc6:=hb8.cell (j:=6) (by decide)
         clear hb8 xat xok xown hB8 HST HI2 HLK2 HPK
         generalize allocL p cr i j Z.n (-1)=LL at *
         generalize allocE p cr i j Z.n (-1)=EE at *
         simp only [St.val]
         go_wp2_with fail
         have HN:Hid (RelI p s y0 w1.heap.size B7 W0 x (set7 w8 B7 (.slice x.on.a x.on.n x.on.c) (.slice x.os.a x.os.n x.os.c) (.slice x.hs.a x.hs.n x.hs.c) (.slice x.ms.a x.ms.n x.ms.c) (.slice x.si.a x.si.n x.si.c) (.slice x.so.a x.so.n x.so.c) (.slice x.sf.a x.sf.n x.sf.c))∧(y0.os.z i).ls.At (set7 w8 B7 (.slice x.on.a x.on.n x.on.c) (.slice x.os.a x.os.n x.os.c) (.slice x.hs.a x.hs.n x.hs.c) (.slice x.ms.a x.ms.n x.ms.c) (.slice x.si.a x.si.n x.si.c) (.slice x.so.a x.so.n x.so.c) (.slice x.sf.a x.sf.n x.sf.c))):=by
          have K:=set7_blk HI8.out.box (.slice x.on.a x.on.n x.on.c) (.slice x.os.a x.os.n x.os.c) (.slice x.hs.a x.hs.n x.hs.c) (.slice x.ms.a x.ms.n x.ms.c) (.slice x.si.a x.si.n x.si.c) (.slice x.so.a x.so.n x.so.c) (.slice x.sf.a x.sf.n x.sf.c)
          have hb:=set7_below (b:=B7) HI8.out.bel (Nat.le_trans A1 A27) (.slice x.on.a x.on.n x.on.c) (.slice x.os.a x.os.n x.os.c) (.slice x.hs.a x.hs.n x.hs.c) (.slice x.ms.a x.ms.n x.ms.c) (.slice x.si.a x.si.n x.si.c) (.slice x.so.a x.so.n x.so.c) (.slice x.sf.a x.sf.n x.sf.c)
          refine ⟨⟨OwnS.set7 HI8.out.own0 HI8.out.box (.slice x.on.a x.on.n x.on.c) (.slice x.os.a x.os.n x.os.c) (.slice x.hs.a x.hs.n x.hs.c) (.slice x.ms.a x.ms.n x.ms.c) (.slice x.si.a x.si.n x.si.c) (.slice x.so.a x.so.n x.so.c) (.slice x.sf.a x.sf.n x.sf.c),OwnS.set7 HOX.out HI8.out.box (.slice x.on.a x.on.n x.on.c) (.slice x.os.a x.os.n x.os.c) (.slice x.hs.a x.hs.n x.hs.c) (.slice x.ms.a x.ms.n x.ms.c) (.slice x.si.a x.si.n x.si.c) (.slice x.so.a x.so.n x.so.c) (.slice x.sf.a x.sf.n x.sf.c),K.congr (fun j hj=>by match j,hj with | 0,_=>rfl | 1,_=>rfl | 2,_=>rfl | 3,_=>rfl | 4,_=>rfl | 5,_=>rfl | 6,_=>rfl),hb,?_⟩,?_⟩
          ·have:=HI8.out.le
           simpa [set7] using this
          ·exact ((OwnS.set7 HI8.out.own0 HI8.out.box (.slice x.on.a x.on.n x.on.c) (.slice x.os.a x.os.n x.os.c) (.slice x.hs.a x.hs.n x.hs.c) (.slice x.ms.a x.ms.n x.ms.c) (.slice x.si.a x.si.n x.si.c) (.slice x.so.a x.so.n x.so.c) (.slice x.sf.a x.sf.n x.sf.c)).at.os.ods i hlt).choose_spec.choose_spec.2.2.2.2
         unfold set7 at HN
         go_roundw
         case rel=>exact ⟨j+1,x,by omega,by go_num,HN.out.1,HN.out.2,HT⟩
         case measure=>simp [intOf];omega
        ·have hjn:j=(y0.os.z i).ls.n:=by omega
         subst hjn
         have HN:Hid (RelA p s (i+1) cr):=by have h:=HB.out;rw [HEN.out] at h;exact h.next
         go_wp2_with fail
         go_roundw
         case rel=>exact ⟨i+1,cr,by omega,by go_num,HI,HN⟩
         case measure=>simp [intOf];omega
      ·have HN:Hid (RelA p s (i+1) cur):=HA.out.skip HR.out his (by rw [← HEK.out];exact hk)
       have hk':((y0.os.z i).k !=1)=true:=by simpa using hk
       clear hk HEK
       generalize (y0.os.z i).k=KK at *
       go_wp2_with fail
       rw [HW.out]
       go_roundw
       case rel=>exact ⟨i+1,cur,by omega,by go_num,HIW,HN⟩
       case measure=>simp [intOf];omega
     ·have hin:i=y0.os.n:=by omega
      have HRL:Hid (Released p s cur):=by have h:=HA.out;rw [hin,HYS.out.os.1] at h;exact h
      obtain ⟨m1,p0,p1,p2,p3,p4,p5,p6⟩:=Boxed.of HI.out.box
      obtain ⟨-,-,-,hBw,hz⟩:=HC.out wr HI.out.bel
      have HZ:Hid (Below w.heap.size w wr∧Blk wr (w.heap.size+2) 31 7 (fun _ => .slice .none 0 0)):=⟨hBw,hz⟩
      have zl:=hz.lt
      have zf0:=hz.frozen 0
      have zc0:=hz.cell (j:=0) (by decide)
      have zf1:=hz.frozen 1
      have zc1:=hz.cell (j:=1) (by decide)
      have zf2:=hz.frozen 2
      have zc2:=hz.cell (j:=2) (by decide)
      have zf3:=hz.frozen 3
      have zc3:=hz.cell (j:=3) (by decide)
      have zf4:=hz.frozen 4
      have zc4:=hz.cell (j:=4) (by decide)
      have zf5:=hz.frozen 5
      have zc5:=hz.cell (j:=5) (by decide)
      have zf6:=hz.frozen 6
      have zc6:=hz.cell (j:=6) (by decide)
      have hlow:=(HC.out _ (Below.refl _ _)).2.2.2.1.size
      clear hBw hz
      go_wp2_with fail
      have KZ:=set7_blk HZ.out.2 (.slice cur.on.a cur.on.n cur.on.c) (.slice cur.os.a cur.os.n cur.os.c) (.slice cur.hs.a cur.hs.n cur.hs.c) (.slice cur.ms.a cur.ms.n cur.ms.c) (.slice cur.si.a cur.si.n cur.si.c) (.slice cur.so.a cur.so.n cur.so.c) (.slice cur.sf.a cur.sf.n cur.sf.c)
      have hbz:=set7_below (b:=w.heap.size+2) HZ.out.1 (by omega) (.slice cur.on.a cur.on.n cur.on.c) (.slice cur.os.a cur.os.n cur.os.c) (.slice cur.hs.a cur.hs.n cur.hs.c) (.slice cur.ms.a cur.ms.n cur.ms.c) (.slice cur.si.a cur.si.n cur.si.c) (.slice cur.so.a cur.so.n cur.so.c) (.slice cur.sf.a cur.sf.n cur.sf.c)
      have hOz:=OwnS.set7 HI.out.own HZ.out.2 (.slice cur.on.a cur.on.n cur.on.c) (.slice cur.os.a cur.os.n cur.os.c) (.slice cur.hs.a cur.hs.n cur.hs.c) (.slice cur.ms.a cur.ms.n cur.ms.c) (.slice cur.si.a cur.si.n cur.si.c) (.slice cur.so.a cur.so.n cur.so.c) (.slice cur.sf.a cur.sf.n cur.sf.c)
      unfold set7 at KZ hbz hOz
      obtain ⟨c0',c1',c2',c3',c4',c5',c6'⟩:=box_cells KZ
      refine bodyPost_ret (v := .tuple #[cur.val,.int .i64 0]) (by simp [results,Tryz.results43,go_sem,St.val,c0',c1',c2',c3',c4',c5',c6']) rfl ?_
      exact ⟨cur,by rw [H0.out];rfl,hOz.at,⟨fun _=>HRL.out,fun h=>absurd H0.out h⟩,fun _=>hOz.mono (by omega),hbz⟩
 ·have HNE:Hid (¬ stateE p s=0):=h0
  have g0:(stateE p s !=0)=true:=by simpa using h0
  clear h0 hpk hsk
  have zl:=hz.lt
  have zf0:=hz.frozen 0
  have zc0:=hz.cell (j:=0) (by decide)
  have zf1:=hz.frozen 1
  have zc1:=hz.cell (j:=1) (by decide)
  have zf2:=hz.frozen 2
  have zc2:=hz.cell (j:=2) (by decide)
  have zf3:=hz.frozen 3
  have zc3:=hz.cell (j:=3) (by decide)
  have zf4:=hz.frozen 4
  have zc4:=hz.cell (j:=4) (by decide)
  have zf5:=hz.frozen 5
  have zc5:=hz.cell (j:=5) (by decide)
  have zf6:=hz.frozen 6
  have zc6:=hz.cell (j:=6) (by decide)
  go_wp2_with fail
  have KZ:=set7_blk hz (.slice .none 0 0) (.slice .none 0 0) (.slice .none 0 0) (.slice .none 0 0) (.slice .none 0 0) (.slice .none 0 0) (.slice .none 0 0)
  have hbz:=set7_below (b:=w.heap.size+2) hBw (by omega) (.slice .none 0 0) (.slice .none 0 0) (.slice .none 0 0) (.slice .none 0 0) (.slice .none 0 0) (.slice .none 0 0) (.slice .none 0 0)
  unfold set7 at KZ hbz
  obtain ⟨c0',c1',c2',c3',c4',c5',c6'⟩:=box_cells KZ
  refine bodyPost_ret (v := .tuple #[noneS.val,.int .i64 (stateE p s)]) (by simp [results,Tryz.results43,go_sem,noneS,St.val,c0',c1',c2',c3',c4',c5',c6']) rfl ?_
  exact ⟨noneS,rfl,noneS_at _,⟨fun h=>absurd h HNE.out,fun _=>⟨rfl,rfl,rfl,rfl,rfl,rfl,rfl⟩⟩,fun h=>absurd h HNE.out,hbz⟩
theorem allGot1_any (x:Hd) (w:World) :
  Calls Tryz.prog 148 #[x.val] w fun e w'=>e = .returned (.bool (lacksL x))∧Below w.heap.size w w':=by
 have hB2:=(Below.refl w.heap.size w).alloc (Nat.le_refl _) (.cells #[.int .i64 x.o,.int .i64 x.l,.int .i64 x.b,.int .i64 x.n] 59)
 unfold Hd.val
 go_enter Tryz.func148,Tryz.ntmps148
 go_wp2_with fail
 go_ret
 exact ⟨rfl,hB2⟩
set_option maxRecDepth 100000 in
theorem allGot_any (h:Hs) (w:World) (hh:h.At w) :
  Calls Tryz.prog 101 #[.slice h.a h.n h.c] w fun e w'=>e = .returned (.bool (!anyB h.n (fun j=>lacksL (h.z j))))∧Below w.heap.size w w':=by
 go_enter Tryz.func101,Tryz.ntmps101
 go_wp2_with fail
 refine (anyL4 148 #[] (fun j=>lacksL (h.z j)) _ _ _ _ hh.le hh.cap h.z hh.hds (enters_of Tryz.func148 (by kernel_rfl) rfl) (fun i w1 _ _=>allGot1_any (h.z i) w1)).mono ?_
 rintro e w1 ⟨rfl,hB⟩
 go_wp2_with fail
 go_ret
 exact ⟨rfl,hB⟩
set_option maxRecDepth 100000 in
set_option maxHeartbeats 8000000 in
theorem Pick_any (p:Pl) (s:St) (order line bin n:Int) (w:World) (hp:p.At w) (hs:s.At w) :
  Calls Tryz.prog 45 #[p.val,s.val,.int .i64 order,.int .i64 line,.int .i64 bin,.int .i64 n] w fun e w'=>∃ x:St,e = .returned (.tuple #[x.val,.int .i64 (pickE p s order line bin n)])∧x.At w'∧ActOK (pickE p s order line bin n) (pickT p s order.toNat line.toNat bin.toNat n) x∧(pickE p s order line bin n=0→OwnS w.heap.size w' x)∧Below w.heap.size w w':=by
 obtain ⟨W0,hW,hWB,X0,Z0⟩:∃ W,(((w.alloc (.cells #[.slice p.ab p.nb p.cb,.slice p.sa p.ns p.cs] 25)).alloc (.cells s.cells 31)).alloc (.cells #[.slice .none 0 0,.slice .none 0 0,.slice .none 0 0,.slice .none 0 0,.slice .none 0 0,.slice .none 0 0,.slice .none 0 0] 31))=W∧Below w.heap.size w W∧Boxes W w.heap.size (w.heap.size+1) p s∧Blk W (w.heap.size+2) 31 7 (fun _ => .slice .none 0 0) :=
  ⟨_,rfl,(two_below _ _ _).alloc (by simp;omega) _,(boxes_new w p s _ _).below ((Below.refl _ _).alloc (Nat.le_refl _) _),(Blk.mk' (cur:=#[.slice .none 0 0,.slice .none 0 0,.slice .none 0 0,.slice .none 0 0,.slice .none 0 0,.slice .none 0 0,.slice .none 0 0]) (by simp) rfl).congr (fun j hj=>by match j,hj with | 0,_=>rfl | 1,_=>rfl | 2,_=>rfl | 3,_=>rfl | 4,_=>rfl | 5,_=>rfl | 6,_=>rfl)⟩
 have HC:Hid (∀ wk,Below W0.heap.size W0 wk→Boxes wk w.heap.size (w.heap.size+1) p s∧p.At wk∧s.At wk∧Below w.heap.size w wk∧Blk wk (w.heap.size+2) 31 7 (fun _ => .slice .none 0 0)):=fun wk h=>⟨X0.below h,(hp.below hWB).below h,(hs.below hWB).below h,hWB.trans (h.mono hWB.size),Z0.below h⟩
 have HW:Hid (((w.alloc (.cells #[.slice p.ab p.nb p.cb,.slice p.sa p.ns p.cs] 25)).alloc (.cells #[.slice s.on.a s.on.n s.on.c,.slice s.os.a s.os.n s.os.c,.slice s.hs.a s.hs.n s.hs.c,.slice s.ms.a s.ms.n s.ms.c,.slice s.si.a s.si.n s.si.c,.slice s.so.a s.so.n s.so.c,.slice s.sf.a s.sf.n s.sf.c] 31)).alloc (.cells #[.slice .none 0 0,.slice .none 0 0,.slice .none 0 0,.slice .none 0 0,.slice .none 0 0,.slice .none 0 0,.slice .none 0 0] 31)=W0):=hW
 have leb:=hp.leb
 have capb0:=hp.capb
 have les:=hp.les
 have caps0:=hp.caps
 have capb:=capb0
 have caps:=caps0
 have zlt0:=Z0.lt
 unfold maxLen at capb caps
 have osl:=hs.os.le
 have osc:=hs.os.cap
 unfold maxLen at osc
 clear hW X0 Z0 hp hs
 unfold Pl.val St.val
 go_enter Tryz.func45,Tryz.ntmps45
 go_wp2_with fail
 rw [HW.out]
 obtain ⟨X,hpk,hsk,hBw,hz⟩:=HC.out W0 (Below.refl _ _)
 refine (stateCheck_any p s W0 hpk hsk).mono ?_
 rintro e w1 ⟨rfl,hB⟩
 clear X hpk hsk hBw hz HW
 obtain ⟨⟨⟨l1,d0,d1⟩,l2,c0,c1,c2,c3,c4,c5,c6⟩,hpk,hsk,hBw,hz⟩:=HC.out w1 hB
 by_cases h0:stateE p s=0
 ·have H0:Hid (stateE p s=0):=h0
  have HR:Hid (RightT p s):=rightT h0
  rw [h0]
  clear h0
  have HSH:Hid (s.hs.At w1):=hsk.hs
  clear hpk hsk hBw hz
  go_wp2_with fail
  refine (DropOwn_any s.hs order line bin w1 HSH.out).mono ?_
  rintro e w2 ⟨hd,rfl,hdo,hdk,hB2⟩
  clear HSH l1 d0 d1 l2 c0 c1 c2 c3 c4 c5 c6
  rw [dropE_of HR.out.fm.hold,dropN_of HR.out.fm.hold]
  have hB02:=hB.trans (hB2.mono hB.size)
  have A1:W0.heap.size≤w1.heap.size:=hB.size
  have A2:w1.heap.size≤w2.heap.size:=hB2.size
  have HDO:Hid (OwnH w1.heap.size 61 w2 hd):=hdo
  have HDK:Hid (DropOK s.hs.n s.hs.z order line bin hd):=hdk
  obtain ⟨⟨⟨l1,d0,d1⟩,l2,c0,c1,c2,c3,c4,c5,c6⟩,hpk,hsk,hBw,hz⟩:=HC.out w2 hB02
  clear hdo hdk hB2 hB
  by_cases h1:keptV s.hs.n s.hs.z order line bin=0
  ·have HX:Hid (pickE p s order line bin n=4):=pickE_none H0.out h1
   have HNE:Hid (¬ pickE p s order line bin n=0):=by show ¬ _;rw [HX.out];decide
   rw [if_pos h1]
   generalize keptV s.hs.n s.hs.z order line bin=KV at *
   simp only [Hs.val]
   clear hpk hsk
   have zl:=hz.lt
   have zf0:=hz.frozen 0
   have zc0:=hz.cell (j:=0) (by decide)
   have zf1:=hz.frozen 1
   have zc1:=hz.cell (j:=1) (by decide)
   have zf2:=hz.frozen 2
   have zc2:=hz.cell (j:=2) (by decide)
   have zf3:=hz.frozen 3
   have zc3:=hz.cell (j:=3) (by decide)
   have zf4:=hz.frozen 4
   have zc4:=hz.cell (j:=4) (by decide)
   have zf5:=hz.frozen 5
   have zc5:=hz.cell (j:=5) (by decide)
   have zf6:=hz.frozen 6
   have zc6:=hz.cell (j:=6) (by decide)
   go_wp2_with fail
   have KZ:=set7_blk hz (.slice .none 0 0) (.slice .none 0 0) (.slice .none 0 0) (.slice .none 0 0) (.slice .none 0 0) (.slice .none 0 0) (.slice .none 0 0)
   have hbz:=set7_below (b:=w.heap.size+2) hBw (by omega) (.slice .none 0 0) (.slice .none 0 0) (.slice .none 0 0) (.slice .none 0 0) (.slice .none 0 0) (.slice .none 0 0) (.slice .none 0 0)
   unfold set7 at KZ hbz
   obtain ⟨c0',c1',c2',c3',c4',c5',c6'⟩:=box_cells KZ
   refine bodyPost_ret (v := .tuple #[noneS.val,.int .i64 4]) (by simp [results,Tryz.results45,go_sem,noneS,St.val,c0',c1',c2',c3',c4',c5',c6']) rfl ?_
   exact ⟨noneS,by rw [HX.out];rfl,noneS_at _,⟨fun h=>absurd h (HNE.out),fun _=>⟨rfl,rfl,rfl,rfl,rfl,rfl,rfl⟩⟩,fun h=>absurd h (HNE.out),hbz⟩
  ·rw [if_neg h1]
   cases h2:inB n 0 (keptV s.hs.n s.hs.z order line bin)
   ·have HX:Hid (pickE p s order line bin n=3):=pickE_range H0.out h1 h2
    have HNE:Hid (¬ pickE p s order line bin n=0):=by show ¬ _;rw [HX.out];decide
    clear h1
    generalize keptV s.hs.n s.hs.z order line bin=KV at *
    simp only [Hs.val]
    clear hpk hsk
    have zl:=hz.lt
    have zf0:=hz.frozen 0
    have zc0:=hz.cell (j:=0) (by decide)
    have zf1:=hz.frozen 1
    have zc1:=hz.cell (j:=1) (by decide)
    have zf2:=hz.frozen 2
    have zc2:=hz.cell (j:=2) (by decide)
    have zf3:=hz.frozen 3
    have zc3:=hz.cell (j:=3) (by decide)
    have zf4:=hz.frozen 4
    have zc4:=hz.cell (j:=4) (by decide)
    have zf5:=hz.frozen 5
    have zc5:=hz.cell (j:=5) (by decide)
    have zf6:=hz.frozen 6
    have zc6:=hz.cell (j:=6) (by decide)
    go_wp2_with (go_at_call 63;refine calls_to (Within_any _ _ _ _) ?_)
    have KZ:=set7_blk hz (.slice .none 0 0) (.slice .none 0 0) (.slice .none 0 0) (.slice .none 0 0) (.slice .none 0 0) (.slice .none 0 0) (.slice .none 0 0)
    have hbz:=set7_below (b:=w.heap.size+2) hBw (by omega) (.slice .none 0 0) (.slice .none 0 0) (.slice .none 0 0) (.slice .none 0 0) (.slice .none 0 0) (.slice .none 0 0) (.slice .none 0 0)
    unfold set7 at KZ hbz
    obtain ⟨c0',c1',c2',c3',c4',c5',c6'⟩:=box_cells KZ
    refine bodyPost_ret (v := .tuple #[noneS.val,.int .i64 3]) (by simp [results,Tryz.results45,go_sem,noneS,St.val,c0',c1',c2',c3',c4',c5',c6']) rfl ?_
    exact ⟨noneS,by rw [HX.out];rfl,noneS_at _,⟨fun h=>absurd h (HNE.out),fun _=>⟨rfl,rfl,rfl,rfl,rfl,rfl,rfl⟩⟩,fun h=>absurd h (HNE.out),hbz⟩
   ·obtain ⟨o,l,b,rfl,rfl,rfl,hi⟩:=holdIn HR.out h1
    have HI:Hid (HoldIn p s o l b):=hi
    have gd:=HI.out.good
    have bd:=HI.out.bd
    have nn:=inB_true h2
    have ho:=HI.out.on
    have hl:=HI.out.ln
    have hb:=HI.out.bn
    obtain ⟨g,hg⟩:∃ g,lineGood s o l=g:=⟨_,rfl⟩
    have HG:Hid (lineGood s o l=g):=hg
    rw [hg] at gd
    have gl:=gd.2
    obtain ⟨bo,oo,hoa,hbo,z0,z1,hlk⟩:=hsk.os.ods o ho
    obtain ⟨bl,ol,hla,hbl,y0,y1,y2,y3⟩:=hlk.hds l hl
    have ll:=hlk.le
    have lc:=hlk.cap
    unfold maxLen at lc
    have son:=HR.out.fm.son
    obtain ⟨bs,os,hsa,hbs,x0c⟩:=hsk.so.ints g (by omega)
    have sol:=hsk.so.le
    have soc:=hsk.so.cap
    unfold maxLen at soc
    have HSA:Hid (s.so.a=some ⟨bs,os,none⟩):=hsa
    have HOA:Hid (s.os.a=some ⟨bo,oo,none⟩):=hoa
    rw [gd.1] at y0
    rw [hoa] at c1
    rw [hla] at z1
    rw [hsa] at c5
    have q0:(0:Int)≤(o:Int):=by omega
    have q1:(o:Int)<(s.os.n:Int):=by omega
    have q2:(0:Int)≤(l:Int):=by omega
    have q3:(l:Int)<((s.os.z o).ls.n:Int):=by omega
    have q4:(0:Int)≤(g:Int):=by omega
    have sg:g<s.so.n:=by omega
    have q5:(g:Int)<(s.so.n:Int):=by omega
    have sob:=HR.out.fm.sob g gl
    have HKV:Hid (heldAt s o l b=keptV s.hs.n s.hs.z o l b):=rfl
    have H1:Hid (¬ heldAt s o l b=0):=h1
    have H2:Hid (inB n 0 (heldAt s o l b)=true):=h2
    have bd':1≤keptV s.hs.n s.hs.z o l b∧keptV s.hs.n s.hs.z o l b≤200:=⟨bd.1,bd.2.1⟩
    clear hoa hla hlk hsa y1 y2 y3 z0 gd bd hi hg h1 son
    simp only [Hs.val]
    by_cases h3:1048576<s.so.z g+n
    ·have HX:Hid (pickE p s o l b n=2):=pickE_many H0.out H1.out H2.out (by show 1048576<s.so.z (lineGood s o l)+n;rw [HG.out];exact h3)
     have HNE:Hid (¬ pickE p s o l b n=0):=by show ¬ _;rw [HX.out];decide
     have h3':1048576 - s.so.z g<n:=by omega
     generalize keptV s.hs.n s.hs.z o l b=KV at *
     clear h3
     clear hpk hsk
     have zl:=hz.lt
     have zf0:=hz.frozen 0
     have zc0:=hz.cell (j:=0) (by decide)
     have zf1:=hz.frozen 1
     have zc1:=hz.cell (j:=1) (by decide)
     have zf2:=hz.frozen 2
     have zc2:=hz.cell (j:=2) (by decide)
     have zf3:=hz.frozen 3
     have zc3:=hz.cell (j:=3) (by decide)
     have zf4:=hz.frozen 4
     have zc4:=hz.cell (j:=4) (by decide)
     have zf5:=hz.frozen 5
     have zc5:=hz.cell (j:=5) (by decide)
     have zf6:=hz.frozen 6
     have zc6:=hz.cell (j:=6) (by decide)
     go_wp2_with (go_at_call 63;refine calls_to (Within_any _ _ _ _) ?_)
     have KZ:=set7_blk hz (.slice .none 0 0) (.slice .none 0 0) (.slice .none 0 0) (.slice .none 0 0) (.slice .none 0 0) (.slice .none 0 0) (.slice .none 0 0)
     have hbz:=set7_below (b:=w.heap.size+2) hBw (by omega) (.slice .none 0 0) (.slice .none 0 0) (.slice .none 0 0) (.slice .none 0 0) (.slice .none 0 0) (.slice .none 0 0) (.slice .none 0 0)
     unfold set7 at KZ hbz
     obtain ⟨c0',c1',c2',c3',c4',c5',c6'⟩:=box_cells KZ
     refine bodyPost_ret (v := .tuple #[noneS.val,.int .i64 2]) (by simp [results,Tryz.results45,go_sem,noneS,St.val,c0',c1',c2',c3',c4',c5',c6']) rfl ?_
     exact ⟨noneS,by rw [HX.out];rfl,noneS_at _,⟨fun h=>absurd h (HNE.out),fun _=>⟨rfl,rfl,rfl,rfl,rfl,rfl,rfl⟩⟩,fun h=>absurd h (HNE.out),hbz⟩
    ·have HX:Hid (pickE p s o l b n=0):=pickE_ok H0.out H1.out H2.out (by show ¬ 1048576<s.so.z (lineGood s o l)+n;rw [HG.out];exact h3)
     have HPI:Hid (PickIn p s o l b n):=by
      have h:=pickIn HX.out
      obtain ⟨-,o',l',b',e1,e2,e3,h⟩:=h
      have e1':o'=o:=by omega
      have e2':l'=l:=by omega
      have e3':b'=b:=by omega
      rw [e1',e2',e3'] at h
      exact h
     have h3':¬ 1048576 - s.so.z g<n:=by omega
     have HDN:Hid (hd.n=(dropHs s.hs o l b).n∧∀ j,j<hd.n→hd.z j=(dropHs s.hs o l b).z j):=by
      have k:=HDK.out
      unfold DropOK at k
      rw [dropE_of HR.out.fm.hold,if_neg (show ¬ keptV s.hs.n s.hs.z o l b=0 from H1.out),if_pos rfl] at k
      exact k
     have HCS:Hid (Calls Tryz.prog 90 #[s.val] w2 fun e w'=>∃ s':St,e = .returned s'.val∧SameT s' s∧OwnS w2.heap.size w' s'∧Below w2.heap.size w2 w'):=copyState_any p s w2 hsk HR.out.fm
     obtain ⟨K,hK⟩:∃ K,keptV s.hs.n s.hs.z o l b=K:=⟨_,rfl⟩
     have HK:Hid (heldAt s o l b=K):=hK
     rw [hK] at bd' h2 nn ⊢
     clear hpk hsk hBw hz hK h3 HKV
     go_wp2_with (go_at_call 63;refine calls_to (Within_any _ _ _ _) ?_)
     rw [← HOA.out,← HSA.out]
     refine Calls.mono HCS.out ?_
     rintro e w4 ⟨x0,rfl,hsame,hown,hB4⟩
     clear HCS l1 d0 d1 l2 c0 c1 c2 c3 c4 c5 c6 z1 hbo hbl hbs y0 x0c h2 h3' HOA HSA
     have x0n:o<x0.os.n:=by rw [hsame.os.1];exact ho
     have xk:=hsame.os.2 o x0n
     have x0l:l<(x0.os.z o).ls.n:=by rw [xk.2.1];exact hl
     have x0b:b<x0.on.n:=by rw [hsame.on.1,HR.out.fm.sh.n];exact hb
     have x0g:g<(x0.on.r b).n:=by rw [(hsame.on.2 b x0b).1,HR.out.fm.sh.len b (by rw [HR.out.fm.sh.n];exact hb)];exact gl
     have x0s:g<x0.so.n:=by rw [hsame.so.1];exact sg
     have HS0:Hid (SameT x0 s):=hsame
     have HXV:Hid ((0≤(x0.on.r b).z g∧(x0.on.r b).z g≤200)∧(0≤x0.so.z g∧x0.so.z g≤1048576)∧(0≤((x0.os.z o).ls.z l).b∧((x0.os.z o).ls.z l).b≤200)∧0≤((x0.os.z o).ls.z l).n∧((x0.os.z o).ls.z l).n≤200):=by
      have f:=HR.out.fm
      have bl:=badLine_no (f.line o ho l hl)
      refine ⟨?_,?_,?_⟩
      ·rw [hsame.num f hb gl];exact f.sh.num b (by rw [f.sh.n];exact hb) g gl
      ·rw [hsame.so.2 g x0s];exact f.sob g gl
      ·rw [hsame.line ho hl];omega
     have v0:=HXV.out
     obtain ⟨W5,hW5,hWB5,K5⟩:∃ W,w4.alloc (.cells #[.slice x0.on.a x0.on.n x0.on.c,.slice x0.os.a x0.os.n x0.os.c,.slice hd.a hd.n hd.c,.slice x0.ms.a x0.ms.n x0.ms.c,.slice x0.si.a x0.si.n x0.si.c,.slice x0.so.a x0.so.n x0.so.c,.slice x0.sf.a x0.sf.n x0.sf.c] 31)=W∧Below w4.heap.size w4 W∧Blk W w4.heap.size 31 7 (fun j=>(withHolds x0 hd).cells.getD j default):=⟨_,rfl,(Below.refl _ _).alloc (Nat.le_refl _) _,Blk.mk' rfl rfl⟩
     have HW5:Hid (w4.alloc (.cells #[.slice x0.on.a x0.on.n x0.on.c,.slice x0.os.a x0.os.n x0.os.c,.slice hd.a hd.n hd.c,.slice x0.ms.a x0.ms.n x0.ms.c,.slice x0.si.a x0.si.n x0.si.c,.slice x0.so.a x0.so.n x0.so.c,.slice x0.sf.a x0.sf.n x0.sf.c] 31)=W5):=hW5
     have hB25:=hB4.trans (hWB5.mono hB4.size)
     have hB5:=hB02.trans (hB25.mono hB02.size)
     have A3:w2.heap.size≤w4.heap.size:=hB4.size
     have HK5:Hid (RelK w1.heap.size w4.heap.size W0 (withHolds x0 hd) W5):=⟨((OwnS.below hown hWB5).mono A2).withHolds (HDO.out.below hB25),K5,hB5,by have:=hB25.size;omega⟩
     clear hW5 hown K5 hB4 hWB5 hB25 hB5 hsame hB02 xk HXV
     -- what lies there
     obtain ⟨g0,G,a1,a2,a3,a4,a5,a6,a7,a8,a9,a10,a11,a12⟩:=HK5.out.own.onCell x0b x0g
     have u0:W5.cell? ⟨w4.heap.size,0,none⟩=some (.slice x0.on.a x0.on.n x0.on.c):=HK5.out.box.cell (j:=0) (by decide)
     have u00:=HK5.out.box.lt
     have a1':x0.on.a=some ⟨g0,0,none⟩:=a1
     have a3':W5.cell? ⟨g0,b,none⟩=some (.slice (some ⟨G,0,none⟩) (x0.on.r b).n (x0.on.r b).c):=a3
     have a7':(x0.on.r b).n≤(x0.on.r b).c:=a7
     have a8':(x0.on.r b).c≤maxLen:=a8
     have a9':W5.cell? ⟨G,g,none⟩=some (.int .i64 ((x0.on.r b).z g)):=a9
     have a11':x0.on.n≤x0.on.c:=a11
     have a12':x0.on.c≤maxLen:=a12
     have a10g:=a10 g
     rw [a1'] at u0
     unfold maxLen at a8' a12'
     have r0:(0:Int)≤(b:Int):=by omega
     have r1:(b:Int)<(x0.on.n:Int):=by omega
     have r2:(g:Int)<((x0.on.r b).n:Int):=by omega
     have hO6:=HK5.out.own.setOn (b:=b) x0b a4 g ((x0.on.r b).z g - n)
     have GB:Blk W5 G 3 (x0.on.r b).n (fun j => .int .i64 ((x0.on.r b).z j)):=by
      obtain ⟨Gq,b1,b2,b3,b4,b5⟩:=HK5.out.own.rows b x0b
      rw [a4] at b1
      simp only [Option.some.injEq,Addr.mk.injEq,and_true] at b1
      subst b1
      exact b5
     have HK6:Hid (RelK w1.heap.size w4.heap.size W0 (setOn (withHolds x0 hd) b g ((x0.on.r b).z g - n)) (W5.setCell ⟨G,g,none⟩ (.int .i64 ((x0.on.r b).z g - n)))):=⟨hO6,HK5.out.box.other (a:=⟨G,g,none⟩) (Blk.ne2 HK5.out.box GB (by decide)) _,HK5.out.bel.setCell (p:=⟨G,g,none⟩) (by show W0.heap.size≤G;omega) _,by have:=HK5.out.le;simpa using this⟩
     clear a1 a1' a3 a4 a5 a7 a8 a9 a10 a11 a12 hO6 GB
     -- what went
     obtain ⟨GS,e1,e2,e3,e4,e5,e6,e7⟩:=HK6.out.own.so.cellAt (g:=g) x0s
     have e1':x0.so.a=some ⟨GS,0,none⟩:=e1
     have u5:(W5.setCell ⟨G,g,none⟩ (.int .i64 ((x0.on.r b).z g - n))).cell? ⟨w4.heap.size,5,none⟩=some (.slice x0.so.a x0.so.n x0.so.c):=HK6.out.box.cell (j:=5) (by decide)
     have u01:=HK6.out.box.lt
     rw [e1'] at u5
     have e4':x0.so.n≤x0.so.c:=e4
     have e5':x0.so.c≤maxLen:=e5
     have e6':(W5.setCell ⟨G,g,none⟩ (.int .i64 ((x0.on.r b).z g - n))).cell? ⟨GS,g,none⟩=some (.int .i64 (x0.so.z g)):=e6
     unfold maxLen at e5'
     have e7g:=e7 g
     have r3:(g:Int)<(x0.so.n:Int):=by omega
     have GB:Blk (W5.setCell ⟨G,g,none⟩ (.int .i64 ((x0.on.r b).z g - n))) GS 3 x0.so.n (fun j => .int .i64 (x0.so.z j)):=by
      obtain ⟨Gq,b1,b2,b3,b4,b5⟩:=HK6.out.own.so
      have b1':x0.so.a=some ⟨Gq,0,none⟩:=b1
      rw [e1'] at b1'
      simp only [Option.some.injEq,Addr.mk.injEq,and_true] at b1'
      subst b1'
      exact b5
     have HK7:Hid (RelK w1.heap.size w4.heap.size W0 (setOut (setOn (withHolds x0 hd) b g ((x0.on.r b).z g - n)) g (x0.so.z g+n)) ((W5.setCell ⟨G,g,none⟩ (.int .i64 ((x0.on.r b).z g - n))).setCell ⟨GS,g,none⟩ (.int .i64 (x0.so.z g+n)))):=⟨HK6.out.own.setOut e1 g _,HK6.out.box.other (a:=⟨GS,g,none⟩) (Blk.ne2 HK6.out.box GB (by decide)) _,HK6.out.bel.setCell (p:=⟨GS,g,none⟩) (by show W0.heap.size≤GS;omega) _,by have:=HK6.out.le;simpa using this⟩
     clear e1 e1' e2 e4 e5 e6 e7 GB HK6
     -- the line
     obtain ⟨gO,BL,f1,f2,f3,f4,f5,f6,f7,f8,f9,f10,f11,f12,f13,f14⟩:=HK7.out.own.lineCell (o:=o) (l:=l) x0n x0l
     have f1':x0.os.a=some ⟨gO,0,none⟩:=f1
     have u1:((W5.setCell ⟨G,g,none⟩ (.int .i64 ((x0.on.r b).z g - n))).setCell ⟨GS,g,none⟩ (.int .i64 (x0.so.z g+n))).cell? ⟨w4.heap.size,1,none⟩=some (.slice x0.os.a x0.os.n x0.os.c):=HK7.out.box.cell (j:=1) (by decide)
     have u02:=HK7.out.box.lt
     rw [f1'] at u1
     have HF1:Hid (x0.os.a=some ⟨gO,0,none⟩):=f1'
     have HF5:Hid ((x0.os.z o).ls.a=some ⟨BL,0,none⟩):=f5
     have f4':((W5.setCell ⟨G,g,none⟩ (.int .i64 ((x0.on.r b).z g - n))).setCell ⟨GS,g,none⟩ (.int .i64 (x0.so.z g+n))).cell? ⟨gO,o*2+1,none⟩=some (.slice (some ⟨BL,0,none⟩) (x0.os.z o).ls.n (x0.os.z o).ls.c):=f4
     have f8':(x0.os.z o).ls.n≤(x0.os.z o).ls.c:=f8
     have f9':(x0.os.z o).ls.c≤maxLen:=f9
     have f13':((W5.setCell ⟨G,g,none⟩ (.int .i64 ((x0.on.r b).z g - n))).setCell ⟨GS,g,none⟩ (.int .i64 (x0.so.z g+n))).cell? ⟨BL,l*4+2,none⟩=some (.int .i64 ((x0.os.z o).ls.z l).b):=f13
     have ol1:x0.os.n≤x0.os.c:=HK7.out.own.os.le
     have oc1:x0.os.c≤maxLen:=HK7.out.own.os.cap
     unfold maxLen at f9' oc1
     have f10a:=f10 (l*4+2)
     have r4:(o:Int)<(x0.os.n:Int):=by omega
     have r5:(l:Int)<((x0.os.z o).ls.n:Int):=by omega
     obtain ⟨Bq,hla',hAB,-,-,hlb⟩:=HK7.out.own.os.lines o x0n
     have hla2:(x0.os.z o).ls.a=some ⟨Bq,0,none⟩:=hla'
     rw [HF5.out] at hla2
     simp only [Option.some.injEq,Addr.mk.injEq,and_true] at hla2
     subst hla2
     have HK8:Hid (RelK w1.heap.size w4.heap.size W0 (setLine (setOut (setOn (withHolds x0 hd) b g ((x0.on.r b).z g - n)) g (x0.so.z g+n)) o l 2 (((x0.os.z o).ls.z l).b+n)) (((W5.setCell ⟨G,g,none⟩ (.int .i64 ((x0.on.r b).z g - n))).setCell ⟨GS,g,none⟩ (.int .i64 (x0.so.z g+n))).setCell ⟨BL,l*4+2,none⟩ (.int .i64 (((x0.os.z o).ls.z l).b+n)))):=⟨HK7.out.own.setLine (o:=o) x0n HF5.out l 2 (by decide) _,HK7.out.box.other (a:=⟨BL,l*4+2,none⟩) (Blk.ne2 HK7.out.box hlb (by decide)) _,HK7.out.bel.setCell (p:=⟨BL,l*4+2,none⟩) (by show W0.heap.size≤BL;omega) _,by have:=HK7.out.le;simpa using this⟩
     clear f1 f1' f2 f4 f5 f6 f8 f9 f10 f11 f12 f13 f14 hla' hlb HK7
     have hl8:l<((setLine (setOut (setOn (withHolds x0 hd) b g ((x0.on.r b).z g - n)) g (x0.so.z g+n)) o l 2 (((x0.os.z o).ls.z l).b+n)).os.z o).ls.n:=by rw [(setLine_n o).1];exact x0l
     obtain ⟨gO2,BL2,f1,f2,g3,f4,f5,f6,g7,f8,f9,f10,f11,f12,f13,f14⟩:=HK8.out.own.lineCell (o:=o) (l:=l) x0n hl8
     have f1':x0.os.a=some ⟨gO2,0,none⟩:=f1
     rw [HF1.out] at f1'
     simp only [Option.some.injEq,Addr.mk.injEq,and_true] at f1'
     subst f1'
     rw [(setLine_n o).2.1] at f5
     have f5':(x0.os.z o).ls.a=some ⟨BL2,0,none⟩:=f5
     rw [HF5.out] at f5'
     simp only [Option.some.injEq,Addr.mk.injEq,and_true] at f5'
     subst f5'
     rw [(setLine_n o).1,(setLine_n o).2.2] at f4
     have g4':(((W5.setCell ⟨G,g,none⟩ (.int .i64 ((x0.on.r b).z g - n))).setCell ⟨GS,g,none⟩ (.int .i64 (x0.so.z g+n))).setCell ⟨BL,l*4+2,none⟩ (.int .i64 (((x0.os.z o).ls.z l).b+n))).cell? ⟨gO,o*2+1,none⟩=some (.slice (some ⟨BL,0,none⟩) (x0.os.z o).ls.n (x0.os.z o).ls.c):=f4
     rw [setLine_at,if_pos ⟨rfl,rfl⟩] at f14
     have f14':(((W5.setCell ⟨G,g,none⟩ (.int .i64 ((x0.on.r b).z g - n))).setCell ⟨GS,g,none⟩ (.int .i64 (x0.so.z g+n))).setCell ⟨BL,l*4+2,none⟩ (.int .i64 (((x0.os.z o).ls.z l).b+n))).cell? ⟨BL,l*4+3,none⟩=some (.int .i64 ((x0.os.z o).ls.z l).n):=f14
     have g10a:=f10 (l*4+3)
     have HF5b:Hid (((setLine (setOut (setOn (withHolds x0 hd) b g ((x0.on.r b).z g - n)) g (x0.so.z g+n)) o l 2 (((x0.os.z o).ls.z l).b+n)).os.z o).ls.a=some ⟨BL,0,none⟩):=by show _=_;rw [(setLine_n o).2.1];exact HF5.out
     obtain ⟨Bq,hla',hAB,-,-,hlb⟩:=HK8.out.own.os.lines o x0n
     have hla2:=hla'
     rw [HF5b.out] at hla2
     simp only [Option.some.injEq,Addr.mk.injEq,and_true] at hla2
     subst hla2
     have HK9:Hid (RelK w1.heap.size w4.heap.size W0 (pickW x0 hd o l b g n K) ((((W5.setCell ⟨G,g,none⟩ (.int .i64 ((x0.on.r b).z g - n))).setCell ⟨GS,g,none⟩ (.int .i64 (x0.so.z g+n))).setCell ⟨BL,l*4+2,none⟩ (.int .i64 (((x0.os.z o).ls.z l).b+n))).setCell ⟨BL,l*4+3,none⟩ (.int .i64 (((x0.os.z o).ls.z l).n+(K - n))))):=⟨HK8.out.own.setLine (o:=o) x0n HF5b.out l 3 (by decide) _,HK8.out.box.other (a:=⟨BL,l*4+3,none⟩) (Blk.ne2 HK8.out.box hlb (by decide)) _,HK8.out.bel.setCell (p:=⟨BL,l*4+3,none⟩) (by show W0.heap.size≤BL;omega) _,by have:=HK8.out.le;simpa using this⟩
     clear f1 f2 f4 f5 f6 f8 f9 f10 f11 f12 f13 f14 hla' hlb HK8
     have HSM:Hid (SameT (pickW x0 hd o l b g n K) (pickS s o l b n)):=by have h:=pickW_same (n:=n) HS0.out HI.out HDN.out.1 HDN.out.2;rw [HG.out,HK.out] at h;exact h
     have yk:((pickW x0 hd o l b g n K).os.z o).ls.n=(x0.os.z o).ls.n∧((pickW x0 hd o l b g n K).os.z o).ls.a=(x0.os.z o).ls.a∧((pickW x0 hd o l b g n K).os.z o).ls.c=(x0.os.z o).ls.c:=by
      unfold pickW
      rw [(setLine_n o).1,(setLine_n o).1,(setLine_n o).2.1,(setLine_n o).2.1,(setLine_n o).2.2,(setLine_n o).2.2]
      exact ⟨rfl,rfl,rfl⟩
     have HYK:Hid (((pickW x0 hd o l b g n K).os.z o).ls.n=(x0.os.z o).ls.n∧((pickW x0 hd o l b g n K).os.z o).ls.a=(x0.os.z o).ls.a∧((pickW x0 hd o l b g n K).os.z o).ls.c=(x0.os.z o).ls.c):=yk
     obtain ⟨gq,h1,h2',h3,h4,h5,h6⟩:=HK9.out.own.orderCells (o:=o) x0n
     have h1':x0.os.a=some ⟨gq,0,none⟩:=h1
     rw [HF1.out] at h1'
     simp only [Option.some.injEq,Addr.mk.injEq,and_true] at h1'
     subst h1'
     rw [yk.1,yk.2.1,yk.2.2,HF5.out] at h5
     have HYL:Hid (Hs.At ((((W5.setCell ⟨G,g,none⟩ (.int .i64 ((x0.on.r b).z g - n))).setCell ⟨GS,g,none⟩ (.int .i64 (x0.so.z g+n))).setCell ⟨BL,l*4+2,none⟩ (.int .i64 (((x0.os.z o).ls.z l).b+n))).setCell ⟨BL,l*4+3,none⟩ (.int .i64 (((x0.os.z o).ls.z l).n+(K - n)))) ((pickW x0 hd o l b g n K).os.z o).ls):=by
      obtain ⟨_,_,_,_,_,_,h⟩:=HK9.out.own.at.os.ods o x0n
      exact h
     have HAG:Hid (Calls Tryz.prog 101 #[.slice (some ⟨BL,0,none⟩) (x0.os.z o).ls.n (x0.os.z o).ls.c] ((((W5.setCell ⟨G,g,none⟩ (.int .i64 ((x0.on.r b).z g - n))).setCell ⟨GS,g,none⟩ (.int .i64 (x0.so.z g+n))).setCell ⟨BL,l*4+2,none⟩ (.int .i64 (((x0.os.z o).ls.z l).b+n))).setCell ⟨BL,l*4+3,none⟩ (.int .i64 (((x0.os.z o).ls.z l).n+(K - n)))) fun e w'=>e = .returned (.bool (gotAll (pickW x0 hd o l b g n K) o))∧Below ((((W5.setCell ⟨G,g,none⟩ (.int .i64 ((x0.on.r b).z g - n))).setCell ⟨GS,g,none⟩ (.int .i64 (x0.so.z g+n))).setCell ⟨BL,l*4+2,none⟩ (.int .i64 (((x0.os.z o).ls.z l).b+n))).setCell ⟨BL,l*4+3,none⟩ (.int .i64 (((x0.os.z o).ls.z l).n+(K - n)))).heap.size ((((W5.setCell ⟨G,g,none⟩ (.int .i64 ((x0.on.r b).z g - n))).setCell ⟨GS,g,none⟩ (.int .i64 (x0.so.z g+n))).setCell ⟨BL,l*4+2,none⟩ (.int .i64 (((x0.os.z o).ls.z l).b+n))).setCell ⟨BL,l*4+3,none⟩ (.int .i64 (((x0.os.z o).ls.z l).n+(K - n)))) w'):=by
      have h:=allGot_any ((pickW x0 hd o l b g n K).os.z o).ls ((((W5.setCell ⟨G,g,none⟩ (.int .i64 ((x0.on.r b).z g - n))).setCell ⟨GS,g,none⟩ (.int .i64 (x0.so.z g+n))).setCell ⟨BL,l*4+2,none⟩ (.int .i64 (((x0.os.z o).ls.z l).b+n))).setCell ⟨BL,l*4+3,none⟩ (.int .i64 (((x0.os.z o).ls.z l).n+(K - n)))) HYL.out
      rw [HYK.out.1,HYK.out.2.1,HYK.out.2.2,HF5.out] at h
      have e:gotAll (pickW x0 hd o l b g n K) o = !anyB (x0.os.z o).ls.n (fun j=>lacksL (((pickW x0 hd o l b g n K).os.z o).ls.z j)):=by unfold gotAll;rw [HYK.out.1]
      rw [e]
      exact h
     clear yk h1 h2' h4 h6 HYL
     rw [← HW5.out] at u0 u00 a2 a3' a6 a9' a10g u5 u01 e3 e6' e7g u1 u02 f3 f4' f7 f13' f10a g3 g4' g7 f14' g10a h3 h5
     simp only [St.val]
     go_wp2_with fail
     rw [HW5.out]
     clear u0 u00 a2 a3' a6 a9' a10g u5 u01 e3 e6' e7g u1 u02 f3 f4' f7 f13' f10a g3 g4' g7 f14' g10a h3 h5 HW5 HK5
     refine Calls.mono HAG.out ?_
     rintro e wx ⟨rfl,hBx⟩
     have HKx:Hid (RelK w1.heap.size w4.heap.size W0 (pickW x0 hd o l b g n K) wx):=HK9.out.below hBx
     clear HAG HK9 hBx
     generalize w4.heap.size=B7 at *
     have HGA:Hid (gotAll (pickW x0 hd o l b g n K) o=gotAll (pickS s o l b n) o):=gotAll_same HSM.out ho
     obtain ⟨y,hy⟩:∃ y,pickW x0 hd o l b g n K=y:=⟨_,rfl⟩
     have yo:y.os.a=x0.os.a∧y.os.n=x0.os.n∧y.os.c=x0.os.c:=by rw [← hy];exact ⟨rfl,rfl,rfl⟩
     have HYO:Hid (y.os.a=some ⟨gO,0,none⟩):=by show y.os.a=_;rw [yo.1];exact HF1.out
     have yon:o<y.os.n:=by rw [yo.2.1];exact x0n
     rw [hy] at HKx HSM HGA ⊢
     clear hy yo HYK
     cases hga:gotAll y o
     ·have HGF:Hid (gotAll (pickS s o l b n) o=false):=HGA.out.symm.trans hga
      have HST:Hid (StepIn p b y o l (K - n)):=by have h:=(HPI.out.stepIn HGF.out).same HSM.out;rw [HK.out] at h;exact h
      have HK1:Hid ((y.os.z o).k=1):=(HSM.out.os.2 o yon).1.trans ((pickS_k s o l b n o).1.trans HI.out.kind)
      have HE0:Hid (allocE p y o l (K - n) b=0):=by have I:=HST.out.allocIn HK1.out;exact I.less ⟨I.n0,Int.le_refl _⟩
      clear hga
      obtain ⟨⟨⟨l1,d0,d1⟩,l2,c0,c1,c2,c3,c4,c5,c6⟩,hpk,hsk,hBw,hz⟩:=HC.out wx HKx.out.bel
      obtain ⟨m1,p0,p1,p2,p3,p4,p5,p6⟩:=Boxed.of HKx.out.box
      have HPK:Hid (p.At wx):=hpk
      clear hpk hsk hBw hz l2 c0 c1 c2 c3 c4 c5 c6
      go_wp2_with fail
      clear l1 d0 d1 m1 p0 p1 p2 p3 p4 p5 p6
      refine (Take_any p y o l (K - n) b wx HPK.out HKx.out.own.at).mono ?_
      rintro e wt ⟨x,rfl,xat,xok,xown,hBt⟩
      have HT:Hid (Step p b y o l (K - n) x):=xok.1 HE0.out
      have HOX:Hid (OwnS w1.heap.size wt x):=(xown HE0.out).mono HKx.out.le
      have HKt:Hid (RelK w1.heap.size B7 W0 y wt):=HKx.out.below hBt
      have hb8:=HKt.out.box
      have bl0:=hb8.lt
      have bf0:=hb8.frozen 0
      have bc0:=hb8.cell (j:=0) (by decide)
      have bf1:=hb8.frozen 1
      have bc1:=hb8.cell (j:=1) (by decide)
      have bf2:=hb8.frozen 2
      have bc2:=hb8.cell (j:=2) (by decide)
      have bf3:=hb8.frozen 3
      have bc3:=hb8.cell (j:=3) (by decide)
      have bf4:=hb8.frozen 4
      have bc4:=hb8.cell (j:=4) (by decide)
      have bf5:=hb8.frozen 5
      have bc5:=hb8.cell (j:=5) (by decide)
      have bf6:=hb8.frozen 6
      have bc6:=hb8.cell (j:=6) (by decide)
      rw [HE0.out]
      clear xat xok xown hBt HPK hb8
      generalize allocL p y o l (K - n) b=LL at *
      obtain ⟨-,-,-,hBw,hz⟩:=HC.out wt HKt.out.bel
      have HZ:Hid (Below w.heap.size w wt∧Blk wt (w.heap.size+2) 31 7 (fun _ => .slice .none 0 0)):=⟨hBw,hz⟩
      have hlow:=(HC.out _ (Below.refl _ _)).2.2.2.1.size
      have bne:B7≠w.heap.size+2:=by have:=HKt.out.box.lt;omega
      have KX:=set7_blk HKt.out.box (.slice x.on.a x.on.n x.on.c) (.slice x.os.a x.os.n x.os.c) (.slice x.hs.a x.hs.n x.hs.c) (.slice x.ms.a x.ms.n x.ms.c) (.slice x.si.a x.si.n x.si.c) (.slice x.so.a x.so.n x.so.c) (.slice x.sf.a x.sf.n x.sf.c)
      have hzB:=set7_other hz (fun e=>bne e.symm) (.slice x.on.a x.on.n x.on.c) (.slice x.os.a x.os.n x.os.c) (.slice x.hs.a x.hs.n x.hs.c) (.slice x.ms.a x.ms.n x.ms.c) (.slice x.si.a x.si.n x.si.c) (.slice x.so.a x.so.n x.so.c) (.slice x.sf.a x.sf.n x.sf.c)
      obtain ⟨x0',x1',x2',x3',x4',x5',x6'⟩:=box_cells KX
      have xm:=KX.lt
      have zl:=hzB.lt
      have zf0:=hzB.frozen 0
      have zc0:=hzB.cell (j:=0) (by decide)
      have zf1:=hzB.frozen 1
      have zc1:=hzB.cell (j:=1) (by decide)
      have zf2:=hzB.frozen 2
      have zc2:=hzB.cell (j:=2) (by decide)
      have zf3:=hzB.frozen 3
      have zc3:=hzB.cell (j:=3) (by decide)
      have zf4:=hzB.frozen 4
      have zc4:=hzB.cell (j:=4) (by decide)
      have zf5:=hzB.frozen 5
      have zc5:=hzB.cell (j:=5) (by decide)
      have zf6:=hzB.frozen 6
      have zc6:=hzB.cell (j:=6) (by decide)
      have HBS:Hid (Below W0.heap.size W0 (set7 wt B7 (.slice x.on.a x.on.n x.on.c) (.slice x.os.a x.os.n x.os.c) (.slice x.hs.a x.hs.n x.hs.c) (.slice x.ms.a x.ms.n x.ms.c) (.slice x.si.a x.si.n x.si.c) (.slice x.so.a x.so.n x.so.c) (.slice x.sf.a x.sf.n x.sf.c))):=set7_below (b:=B7) HKt.out.bel (by omega) (.slice x.on.a x.on.n x.on.c) (.slice x.os.a x.os.n x.os.c) (.slice x.hs.a x.hs.n x.hs.c) (.slice x.ms.a x.ms.n x.ms.c) (.slice x.si.a x.si.n x.si.c) (.slice x.so.a x.so.n x.so.c) (.slice x.sf.a x.sf.n x.sf.c)
      have HOS:Hid (OwnS w1.heap.size (set7 wt B7 (.slice x.on.a x.on.n x.on.c) (.slice x.os.a x.os.n x.os.c) (.slice x.hs.a x.hs.n x.hs.c) (.slice x.ms.a x.ms.n x.ms.c) (.slice x.si.a x.si.n x.si.c) (.slice x.so.a x.so.n x.so.c) (.slice x.sf.a x.sf.n x.sf.c)) x):=OwnS.set7 HOX.out HKt.out.box (.slice x.on.a x.on.n x.on.c) (.slice x.os.a x.os.n x.os.c) (.slice x.hs.a x.hs.n x.hs.c) (.slice x.ms.a x.ms.n x.ms.c) (.slice x.si.a x.si.n x.si.c) (.slice x.so.a x.so.n x.so.c) (.slice x.sf.a x.sf.n x.sf.c)
      have HZB:Hid (Blk (set7 wt B7 (.slice x.on.a x.on.n x.on.c) (.slice x.os.a x.os.n x.os.c) (.slice x.hs.a x.hs.n x.hs.c) (.slice x.ms.a x.ms.n x.ms.c) (.slice x.si.a x.si.n x.si.c) (.slice x.so.a x.so.n x.so.c) (.slice x.sf.a x.sf.n x.sf.c)) (w.heap.size+2) 31 7 (fun _ => .slice .none 0 0)):=hzB
      have HTS:Hid (SameT x (pickT p s o l b n)):=by
       unfold pickT
       rw [HGF.out,if_neg (by decide)]
       have tk:=takeT_step (but:=(b:Int)) HPI.out.takeIn
       have T':=HT.out
       rw [← HK.out] at T'
       exact Step.same HPI.out.takeIn HSM.out tk T'
      clear hBw hz KX hzB
      unfold set7 at x0' x1' x2' x3' x4' x5' x6' xm zl zf0 zf1 zf2 zf3 zf4 zf5 zf6 zc0 zc1 zc2 zc3 zc4 zc5 zc6
      simp only [St.val]
      go_wp2_with fail
      have KZ:=set7_blk HZB.out (.slice x.on.a x.on.n x.on.c) (.slice x.os.a x.os.n x.os.c) (.slice x.hs.a x.hs.n x.hs.c) (.slice x.ms.a x.ms.n x.ms.c) (.slice x.si.a x.si.n x.si.c) (.slice x.so.a x.so.n x.so.c) (.slice x.sf.a x.sf.n x.sf.c)
      have hbz:=set7_below (b:=w.heap.size+2) ((HC.out _ HBS.out).2.2.2.1) (by omega) (.slice x.on.a x.on.n x.on.c) (.slice x.os.a x.os.n x.os.c) (.slice x.hs.a x.hs.n x.hs.c) (.slice x.ms.a x.ms.n x.ms.c) (.slice x.si.a x.si.n x.si.c) (.slice x.so.a x.so.n x.so.c) (.slice x.sf.a x.sf.n x.sf.c)
      have hOz:=OwnS.set7 HOS.out HZB.out (.slice x.on.a x.on.n x.on.c) (.slice x.os.a x.os.n x.os.c) (.slice x.hs.a x.hs.n x.hs.c) (.slice x.ms.a x.ms.n x.ms.c) (.slice x.si.a x.si.n x.si.c) (.slice x.so.a x.so.n x.so.c) (.slice x.sf.a x.sf.n x.sf.c)
      unfold set7 at KZ hbz hOz
      obtain ⟨c0',c1',c2',c3',c4',c5',c6'⟩:=box_cells KZ
      refine bodyPost_ret (v := .tuple #[x.val,.int .i64 0]) (by simp [results,Tryz.results45,go_sem,St.val,c0',c1',c2',c3',c4',c5',c6']) rfl ?_
      exact ⟨x,by rw [HX.out];rfl,hOz.at,⟨fun _=>HTS.out,fun h=>absurd HX.out h⟩,fun _=>hOz.mono (by omega),hbz⟩
     ·have HGT:Hid (gotAll (pickS s o l b n) o=true):=HGA.out.symm.trans hga
      clear hga
      obtain ⟨gq,h1,h2',h3,h4,h5,h6⟩:=HKx.out.own.orderCells (o:=o) yon
      rw [HYO.out] at h1
      simp only [Option.some.injEq,Addr.mk.injEq,and_true] at h1
      subst h1
      have h6k:=h6 (o*2)
      obtain ⟨gq,b1,b2,b3⟩:=HKx.out.own.os.list (by omega)
      rw [HYO.out] at b1
      simp only [Option.some.injEq,Addr.mk.injEq,and_true] at b1
      subst b1
      have bneo:gO≠B7:=Blk.ne2 b3 HKx.out.box (by decide)
      have HKk:Hid (RelK w1.heap.size B7 W0 (kindS y o 2) (wx.setCell ⟨gO,o*2,none⟩ (.int .i64 2))):=⟨HKx.out.own.kind (o:=o) yon HYO.out 2,HKx.out.box.other (a:=⟨gO,o*2,none⟩) bneo.symm _,HKx.out.bel.setCell (p:=⟨gO,o*2,none⟩) (by show W0.heap.size≤gO;omega) _,by have:=HKx.out.le;simpa using this⟩
      have HTS:Hid (SameT (kindS y o 2) (pickT p s o l b n)):=by
       unfold pickT
       rw [HGT.out,if_pos rfl]
       exact kindS_same HSM.out o 2
      generalize kindS y o 2=x at HKk HTS
      obtain ⟨m1,p0,p1,p2,p3,p4,p5,p6⟩:=Boxed.of HKk.out.box
      obtain ⟨-,-,-,hBw,hz⟩:=HC.out _ HKk.out.bel
      have HZ:Hid (Below w.heap.size w (wx.setCell ⟨gO,o*2,none⟩ (.int .i64 2))∧Blk (wx.setCell ⟨gO,o*2,none⟩ (.int .i64 2)) (w.heap.size+2) 31 7 (fun _ => .slice .none 0 0)):=⟨hBw,hz⟩
      have zl:=hz.lt
      have zf0:=hz.frozen 0
      have zc0:=hz.cell (j:=0) (by decide)
      have zf1:=hz.frozen 1
      have zc1:=hz.cell (j:=1) (by decide)
      have zf2:=hz.frozen 2
      have zc2:=hz.cell (j:=2) (by decide)
      have zf3:=hz.frozen 3
      have zc3:=hz.cell (j:=3) (by decide)
      have zf4:=hz.frozen 4
      have zc4:=hz.cell (j:=4) (by decide)
      have zf5:=hz.frozen 5
      have zc5:=hz.cell (j:=5) (by decide)
      have zf6:=hz.frozen 6
      have zc6:=hz.cell (j:=6) (by decide)
      have hlow:=(HC.out _ (Below.refl _ _)).2.2.2.1.size
      clear h2' h5 h6 b2 b3 hBw hz HKx
      generalize (y.os.z o).k=KK at *
      go_wp2_with fail
      have KZ:=set7_blk HZ.out.2 (.slice x.on.a x.on.n x.on.c) (.slice x.os.a x.os.n x.os.c) (.slice x.hs.a x.hs.n x.hs.c) (.slice x.ms.a x.ms.n x.ms.c) (.slice x.si.a x.si.n x.si.c) (.slice x.so.a x.so.n x.so.c) (.slice x.sf.a x.sf.n x.sf.c)
      have hbz:=set7_below (b:=w.heap.size+2) HZ.out.1 (by omega) (.slice x.on.a x.on.n x.on.c) (.slice x.os.a x.os.n x.os.c) (.slice x.hs.a x.hs.n x.hs.c) (.slice x.ms.a x.ms.n x.ms.c) (.slice x.si.a x.si.n x.si.c) (.slice x.so.a x.so.n x.so.c) (.slice x.sf.a x.sf.n x.sf.c)
      have hOz:=OwnS.set7 HKk.out.own HZ.out.2 (.slice x.on.a x.on.n x.on.c) (.slice x.os.a x.os.n x.os.c) (.slice x.hs.a x.hs.n x.hs.c) (.slice x.ms.a x.ms.n x.ms.c) (.slice x.si.a x.si.n x.si.c) (.slice x.so.a x.so.n x.so.c) (.slice x.sf.a x.sf.n x.sf.c)
      unfold set7 at KZ hbz hOz
      obtain ⟨c0',c1',c2',c3',c4',c5',c6'⟩:=box_cells KZ
      refine bodyPost_ret (v := .tuple #[x.val,.int .i64 0]) (by simp [results,Tryz.results45,go_sem,St.val,c0',c1',c2',c3',c4',c5',c6']) rfl ?_
      exact ⟨x,by rw [HX.out];rfl,hOz.at,⟨fun _=>HTS.out,fun h=>absurd HX.out h⟩,fun _=>hOz.mono (by omega),hbz⟩
 ·have HX:Hid (pickE p s order line bin n=stateE p s):=pickE_state h0
  have HNE:Hid (¬ pickE p s order line bin n=0):=by show ¬ _;rw [pickE_state h0];exact h0
  have g0:(stateE p s !=0)=true:=by simpa using h0
  clear h0
  clear hpk hsk
  have zl:=hz.lt
  have zf0:=hz.frozen 0
  have zc0:=hz.cell (j:=0) (by decide)
  have zf1:=hz.frozen 1
  have zc1:=hz.cell (j:=1) (by decide)
  have zf2:=hz.frozen 2
  have zc2:=hz.cell (j:=2) (by decide)
  have zf3:=hz.frozen 3
  have zc3:=hz.cell (j:=3) (by decide)
  have zf4:=hz.frozen 4
  have zc4:=hz.cell (j:=4) (by decide)
  have zf5:=hz.frozen 5
  have zc5:=hz.cell (j:=5) (by decide)
  have zf6:=hz.frozen 6
  have zc6:=hz.cell (j:=6) (by decide)
  go_wp2_with fail
  have KZ:=set7_blk hz (.slice .none 0 0) (.slice .none 0 0) (.slice .none 0 0) (.slice .none 0 0) (.slice .none 0 0) (.slice .none 0 0) (.slice .none 0 0)
  have hbz:=set7_below (b:=w.heap.size+2) hBw (by omega) (.slice .none 0 0) (.slice .none 0 0) (.slice .none 0 0) (.slice .none 0 0) (.slice .none 0 0) (.slice .none 0 0) (.slice .none 0 0)
  unfold set7 at KZ hbz
  obtain ⟨c0',c1',c2',c3',c4',c5',c6'⟩:=box_cells KZ
  refine bodyPost_ret (v := .tuple #[noneS.val,.int .i64 (stateE p s)]) (by simp [results,Tryz.results45,go_sem,noneS,St.val,c0',c1',c2',c3',c4',c5',c6']) rfl ?_
  exact ⟨noneS,by rw [HX.out];rfl,noneS_at _,⟨fun h=>absurd h (HNE.out),fun _=>⟨rfl,rfl,rfl,rfl,rfl,rfl,rfl⟩⟩,fun h=>absurd h (HNE.out),hbz⟩
end Go.Proofs.YtbcacebifpagpagGreat
namespace Go.Proofs.YtbcacebifpagpagGreat
open Go.RowKit
set_option linter.unusedVariables false
def vKind3 (o:Oper):Bool:=vKind2 o||match o.op with
 | .extract ..=>true
 | .build ..=>true
 | .field ..=>true
 | .index ..=>true
 | .unOp ..=>true
 | _=>false
theorem vKind3_spec {P:Program} {o:Oper} {ρ:Operand→Value} {w w':World} {n:Next} (hv:vKind3 o=true) (h:(execOp ρ o).run P w = .ok n w'):∃ v,n = .value v:=by
 unfold vKind3 at hv
 rw [Bool.or_eq_true] at hv
 rcases hv with hv | hv
 ·exact vKind2_spec hv h
 ·unfold execOp at h
  split at hv
  all_goals first
   | (cases hv;done)
   | (rename_i hx;rw [hx] at h;exact valued h)
theorem wpAnyT_firsts3 {P:Program} {l:List Oper} {Q:Exit→Act→World→Prop} {S:World→Prop} {T:Nat→Bool} {N:Nat} {K:Act→Prop} {w:World} {fuel:Nat} (hs:Region.noSelect l.toArray=true) (hS:S w) (hQ:∀ c a a' w,Q (.panic c) a w→Q (.panic c) a' w) :
  ∀ (ks:List Nat) (os:List Oper) (listed:Array Bool) (a:Act),firstsB l.toArray ks listed=true→(∀ k∈ks,T k=false∧∀ j,T j=true→reach l.toArray N j k=true)→Closed l.toArray listed→ks.map (fun k=>l[k]?)=os.map some→(os.all vKind3)=true →
   wpQuiet P l.toArray S K os a→(∀ a,K a→Closed l.toArray (mark listed ks)→wpAnyT P l.toArray Q S T fuel (mark listed ks) a w)→wpAnyT P l.toArray Q S T (ks.length+fuel) listed a w
 | [],[],listed,a,_,_,hc,_,_,h,hK=>by rw [List.length_nil,Nat.zero_add];exact hK a h hc
 | k :: ks,o :: os,listed,a,hB,hTk,hc,hk,hv,h,hK=>by
  simp only [List.map_cons,List.cons.injEq] at hk
  simp only [List.all_cons,Bool.and_eq_true] at hv
  simp only [firstsB,Bool.and_eq_true] at hB
  rw [List.length_cons,Nat.add_right_comm]
  have hready:k∈Region.ready .any l.toArray listed:=by simpa using hB.1.1
  have go:∀ v,YieldsIf P l.toArray S o v a→wpAnyT P l.toArray Q S T (ks.length+fuel) (listed.setIfInBounds k true) (a.put o.dst v) w→wpAnyT P l.toArray Q S T (ks.length+fuel+1) listed a w :=
   fun v hy h'=>wpAnyT_first (N:=N) (by simpa using hk.1) (Region.noSelect_spec hs) (fun c a w hq=>hQ _ _ _ _ hq) (hTk k (by simp)).2 (hTk k (by simp)).1 _ listed a w (Region.free_spec (by simpa using hk.1) hB.1.2) hready hc hy hS h'
  have again:=fun (a:Act) (hq:wpQuiet P l.toArray S K os a)=>wpAnyT_firsts3 (N:=N) (T:=T) (fuel:=fuel) hs hS hQ ks os _ a hB.2 (fun k' hk'=>hTk k' (by simp [hk'])) (hc.set hready) hk.2 hv.2 hq hK
  unfold wpQuiet at h
  split at h
  ·rename_i hw
   obtain ⟨v,h1,h2⟩:=h
   refine go v (.inl ⟨hw,fun w' hS => ?_⟩) (again _ h2)
   have:=h1 w' hS
   unfold Oper.quietAt at this
   cases hr:(execOp a.eval o).run P w' with
   | ok n w2 =>
    rw [hr] at this
    obtain ⟨u,rfl⟩:=vKind3_spec hv.1 hr
    simp only [Oper.quietUpon] at this
    rw [this.1,this.2]
   | halt x w2=>rw [hr] at this;exact this.elim
  ·rename_i hw
   exact go undef (.inr ⟨by simpa using hw,rfl⟩) (again _ h)
 | [],_ :: _,_,_,_,_,_,hk,_,_,_=>by simp at hk
 | _ :: _,[],_,_,_,_,_,hk,_,_,_=>by simp at hk
def laterOf (n:Nat) (listed:Array Bool):List Nat:=(List.range n).filter (fun i => !listed.getD i true)
def phB (ops:Array Oper):List (Bool × List Nat × Option Nat)→Array Bool→Bool
 | [],listed=>Region.ready .any ops listed==[]
 | (t,ks,c) :: r,listed=>firstsB ops ks listed&&ks.all (fun k=>decide (k<ops.size))&&ks.all (fun k => !(laterOf ops.size (mark listed ks)).contains k)&&(!t||ks.all (fun k=>(laterOf ops.size (mark listed ks)).all (fun j=>reach ops ops.size j k))) &&
   (match c with | some c=>(Region.ready .any ops (mark listed ks)==[c])&&phB ops r ((mark listed ks).setIfInBounds c true) | none=>phB ops r (mark listed ks))
def phN:List (Bool × List Nat × Option Nat)→Nat
 | []=>0
 | (_,ks,some _) :: r=>ks.length+(phN r+1)
 | (_,ks,none) :: r=>ks.length+phN r
def wpPh (P:Program) (l:List Oper) (Q:Exit→Act→World→Prop):List (Bool × List Nat × Option Nat)→Act→World→Prop
 | [],a,w=>Q .normal a w
 | (t,ks,some c) :: r,a,w=>∃ S:World→Prop,S w∧(t=false→∀ w',S w')∧wpQuiet P l.toArray S (fun a1=>wpOp P l.toArray Q c (fun a2 w2=>wpPh P l Q r a2 w2) a1 w) (picks l ks) a
 | (t,ks,none) :: r,a,w=>∃ S:World→Prop,S w∧(t=false→∀ w',S w')∧wpQuiet P l.toArray S (fun a1=>wpPh P l Q r a1 w) (picks l ks) a
theorem wpAnyT_of_any {P:Program} {ops:Array Oper} {Q:Exit→Act→World→Prop} {S:World→Prop} {T:Nat→Bool}:∀ (fuel:Nat) (listed:Array Bool) (a:Act) (w:World),(∀ i,listed.getD i true=false→i<ops.size→T i=true∨∀ w,S w)→wpAny P .any ops Q fuel listed a w→wpAnyT P ops Q S T fuel listed a w
 | 0,_,_,_,_,h=>h
 | fuel+1,listed,a,w,hT,h=>⟨h.1,fun i hi=>wpOp_mono (fun a' w' h'=>⟨fun hTi=>by
   obtain ⟨h1,o,h2,_⟩:=mem_ready.1 hi
   rcases hT i h1 (Array.getElem?_eq_some_iff.1 h2).1 with e | e
   ·rw [e] at hTi;cases hTi
   ·exact e w',wpAnyT_of_any fuel _ a' w' (fun j hj hjs=>hT j (by
   by_cases e:i=j
   ·subst e
    exact (mem_ready.1 hi).1
   ·rw [getD_set_ne true e] at hj;exact hj) hjs) h'⟩) (h.2 i hi)⟩
theorem wpAny_ph {P:Program} {l:List Oper} {Q:Exit→Act→World→Prop} (hs:Region.noSelect l.toArray=true) (hQ:∀ c a a' w,Q (.panic c) a w→Q (.panic c) a' w):∀ (ph:List (Bool × List Nat × Option Nat)) (listed:Array Bool) (a:Act) (w:World),
   phB l.toArray ph listed=true→(ph.all (fun x=>(picks l x.2.1).all vKind3))=true→Closed l.toArray listed→wpPh P l Q ph a w→wpAny P .any l.toArray Q (phN ph) listed a w
 | [],listed,a,w,hB,_,_,h=>⟨by simpa [phB] using hB,h⟩
 | (t,ks,c) :: r,listed,a,w,hB,hv,hcl,h=>by
  simp only [phB,Bool.and_eq_true] at hB
  obtain ⟨⟨⟨⟨b1,b2⟩,b3⟩,b4⟩,b5⟩:=hB
  simp only [List.all_cons,Bool.and_eq_true] at hv
  have key:=fun (S:World→Prop) (K:Act→Prop) (f:Nat) (hS:S w) (hST:t=false→∀ w',S w') (hq:wpQuiet P l.toArray S K (picks l ks) a) (hK:∀ a1,K a1→Closed l.toArray (mark listed ks)→wpAny P .any l.toArray Q f (mark listed ks) a1 w)=>wpAny_of_T _ _ _ _ (wpAnyT_firsts3 (P:=P) (Q:=Q) (S:=S) (T:=fun i=>t&&(laterOf l.toArray.size (mark listed ks)).contains i) (N:=l.toArray.size) (fuel:=f) (w:=w) hs hS hQ ks (picks l ks) listed a b1
   (fun k hk=>⟨by
    have:=List.all_eq_true.1 b3 k hk
    rw [Bool.not_eq_true'] at this
    rw [this,Bool.and_false],fun j hj=>by
    rw [Bool.and_eq_true] at hj
    have b4':=b4
    rw [hj.1] at b4'
    simp only [Bool.not_true,Bool.false_or] at b4'
    exact List.all_eq_true.1 (List.all_eq_true.1 b4' k hk) j (by simpa using hj.2)⟩)
   hcl (picks_ok (by simpa using b2)) hv.1 hq (fun a1 h1 hcl1=>by
    refine wpAnyT_of_any _ _ _ _ (fun i hi his => ?_) (hK a1 h1 hcl1)
    cases t with
    | false=>exact Or.inr (hST rfl)
    | true =>
     left
     have:i∈laterOf l.toArray.size (mark listed ks):=by
      unfold laterOf
      rw [List.mem_filter,List.mem_range]
      exact ⟨his,by rw [hi];rfl⟩
     simpa using this))
  cases c with
  | none =>
   obtain ⟨S,hS,hST,hq⟩:=h
   exact key S _ (phN r) hS hST hq fun a1 h1 hcl1=>wpAny_ph hs hQ r _ a1 w b5 hv.2 hcl1 h1
  | some c =>
   obtain ⟨S,hS,hST,hq⟩:=h
   simp only [Bool.and_eq_true] at b5
   have hready:Region.ready .any l.toArray (mark listed ks)=[c]:=by simpa using b5.1
   refine key S _ (phN r+1) hS hST hq fun a1 h1 hcl1 => ?_
   refine ⟨fun e=>(by rw [hready] at e;cases e),fun i hi => ?_⟩
   have hic:i=c:=by rw [hready] at hi;simpa using hi
   subst hic
   exact wpOp_mono (fun a2 w2 h2=>wpAny_ph hs hQ r _ a2 w2 b5.2 hv.2 (hcl1.set hi) h2) h1
theorem wp_region_ph {P:Program} {l:List Oper} {Q:Exit→Act→World→Prop} {id:Nat} {a:Act} {w:World} (ph:List (Bool × List Nat × Option Nat))
  (hm:P.follows .mixedOrders=true) (hs:Region.noSelect l.toArray=true) (hB:phB l.toArray ph (Array.replicate l.length false)=true) (hv:(ph.all (fun x=>(picks l x.2.1).all vKind3))=true) (hl:phN ph=l.length)
  (h:wpPh P l (NoPanic Q) ph a w.drew):(Code.region id l.toArray true).wp P Q a w:=by
 refine wp_region_noPanic (wp_region_any hm ?_)
 have:=wpAny_ph (Q:=NoPanic Q) hs (fun c a a' w h=>(h:False).elim) ph _ a w.drew hB hv (Closed.none _ _) h
 rw [hl] at this
 simpa using this
theorem wpOp_one {P:Program} {l:List Oper} {Q:Exit→Act→World→Prop} {K:Act→World→Prop} (k:Nat) {o:Oper} {a:Act} {w:World} (hk:l[k]?=some o)
  (h:wpList P l.toArray (Exit.then K Q) [o] a w):wpOp P l.toArray Q k K a w:=wpOp_list k hk h
def CellsKept (A B:World):Prop:=A.heap.size≤B.heap.size∧∀ (g:Nat) (cur:Array Value) (e:TypeId) (z:Nat × Nat),A.heap[g]?=some (.cells cur e z)→B.heap[g]?=A.heap[g]?
theorem CellsKept.of {A B:World} {row:Option Nat} (hg:A.grownBy B row) (hr:∀ r,row=some r→∃ o:Obj,A.heap[r]?=some o∧o.isCells=false):CellsKept A B :=
 ⟨hg.size,fun g cur e z h=>hg.block g (Array.getElem?_eq_some_iff.1 h).1 (fun k=>by
  obtain ⟨o,ho,hc⟩:=hr g k.symm
  rw [h] at ho
  cases ho
  cases hc)⟩
theorem Blk.ck {A B:World} {g:Nat} {e:TypeId} {n:Nat} {f:Nat→Value} (h:Blk A g e n f) (k:CellsKept A B):Blk B g e n f:=by
 obtain ⟨cur,hc,hr⟩:=h
 exact Blk.same ⟨cur,hc,hr⟩ (k.2 g cur e (0,0) hc)
theorem OwnI.ck {M:Nat} {A B:World} {r:Rw} (h:OwnI M A r) (k:CellsKept A B):OwnI M B r:=by
 obtain ⟨g,ha,h0,h1,h2,hb⟩:=h
 exact ⟨g,ha,h0,h1,h2,hb.ck k⟩
theorem Room.ck {M:Nat} {A B:World} {e:TypeId} {size:Nat} {a:Option Addr} {c:Nat} (h:Room M A e size a c) (k:CellsKept A B):Room M B e size a c :=
 h.same fun g cur hg=>k.2 g cur e (0,0) hg
theorem OwnO.ck {M:Nat} {A B:World} {s:Os} (h:OwnO M A s) (k:CellsKept A B):OwnO M B s:=by
 refine ⟨h.le,h.cap,fun hn => ?_,fun i hi => ?_,h.apart,h.room.ck k⟩
 ·obtain ⟨g,a,b,c⟩:=h.list hn
  exact ⟨g,a,b,c.ck k⟩
 ·obtain ⟨C,a,b,c,d,e⟩:=h.lines i hi
  exact ⟨C,a,b,c,d,e.ck k⟩
theorem OwnH.ck {M:Nat} {e:TypeId} {A B:World} {s:Hs} (h:OwnH M e A s) (k:CellsKept A B):OwnH M e B s:=by
 obtain ⟨h1,h2,h3,h4⟩:=h
 refine ⟨h1,h2,h3,fun hn => ?_⟩
 obtain ⟨g,ha,hA,hb⟩:=h4 hn
 exact ⟨g,ha,hA,hb.ck k⟩
theorem OwnS.ck {M:Nat} {A B:World} {s:St} (h:OwnS M A s) (k:CellsKept A B):OwnS M B s:=by
 refine ⟨?_,fun i hi=>(h.rows i hi).ck k,h.rapart,h.os.ck k,h.hs.ck k,h.ms.ck k,h.msr.ck k,h.si.ck k,h.so.ck k,h.sf.ck k,h.aio,h.aif,h.aof,h.ari⟩
 obtain ⟨g,ha,h0,h1,h2,hb⟩:=h.on
 exact ⟨g,ha,h0,h1,h2,hb.ck k⟩
theorem OwnS.low {M M':Nat} {A:World} {s:St} (h:OwnS M A s) (hM:M'≤M):OwnS M' A s:=by
 refine ⟨?_,fun i hi => ?_,h.rapart,h.os.mono hM,h.hs.mono hM,h.ms.mono hM,h.msr.mono hM,?_,?_,?_,h.aio,h.aif,h.aof,h.ari⟩
 ·obtain ⟨g,ha,h0,h1⟩:=h.on
  exact ⟨g,ha,Nat.le_trans hM h0,h1⟩
 ·obtain ⟨g,ha,h0,h1⟩:=h.rows i hi
  exact ⟨g,ha,Nat.le_trans hM h0,h1⟩
 ·obtain ⟨g,ha,h0,h1⟩:=h.si
  exact ⟨g,ha,Nat.le_trans hM h0,h1⟩
 ·obtain ⟨g,ha,h0,h1⟩:=h.so
  exact ⟨g,ha,Nat.le_trans hM h0,h1⟩
 ·obtain ⟨g,ha,h0,h1⟩:=h.sf
  exact ⟨g,ha,Nat.le_trans hM h0,h1⟩
theorem CellsKept.below {A B:World} (h:Below A.heap.size A B):CellsKept A B:=⟨h.size,fun g cur e z hg=>h.block g (Array.getElem?_eq_some_iff.1 hg).1⟩
theorem wpListIn_append_grows {F:Fence} {nF:Nat} {P:Program} (w:World) {ops:Array Oper} {rest:List Oper} {o:Oper} {a:Act} {Q:Exit→Act→World→Prop}
  (hg:o.guard=none) (s x:Operand) (t:TypeId) (hop:o.op=Op.call { callee:=Callee.builtin Builtin.append,args:=#[s,x],argTypes:=#[t,t] })
  (e:TypeId) (i:TypeInfo) (z:Value) (size bytes:Nat) (h1:P.underlying t=some (.slice e)) (h2:P.info? e=some i) (h3:i.zero=some z) (h4:i.size=size) (h5:i.bytes=bytes) (h6:z.cells.size=size) (h7:0<size)
  (ao:Option Addr) (n cap:Nat) (olds:List Value) (hs:a.eval s = .slice ao n cap) (hnone:ao=none→n=0∧cap=0) (hlo:olds.length=n*size) (holds:∀ b,ao=some b→∀ j u,olds[j]?=some u→w.cell? (b.add j)=some u)
  (ad:Addr) (m c:Nat) (news:List Value) (hx:a.eval x = .slice (some ad) m c) (hn:news.length=m*size) (hc:∀ j u,news[j]?=some u→w.cell? (ad.add j)=some u) (h1c:∀ u∈news,u.oneCell'=true)
  (hfull:cap<n+m) (b1:n+m≤maxLen) (b2:(n+m)*bytes≤140737488355328)
  (hK:∀ v' w',w'.ownsRow w.heap.size e size v' (n+m) (olds++news)→w.grownBy w' none→wpListIn F nF P ops Q rest (a.put o.dst v') w') :
  wpListIn F nF P ops Q (o :: rest) a w:=by
 refine wpListIn_plain hg fun K hK' => ?_
 cases ao with
 | some b =>
  obtain ⟨v',w',hrun,r1,r2⟩:=run_append_arg_grows (P:=P) w t o.type e i z size bytes h1 h2 h3 h4 h5 h6 h7 b n cap olds hlo (holds b rfl) ad m c news hn hc hfull b1 b2
  unfold Oper.wpIn
  refine ⟨?_,?_⟩
  ·simp [Oper.about,hop,resolve,Target.leads,Sem.run_pure]
  ·rw [Oper.semAt_plain F _ _ (by rw [hop];intro c hc';cases hc')]
   simp [execOp,hop,resolve,invoke,builtin,hs,hx,hrun,Result.andThen]
   exact hK' _ _ (hK v' w' r1 r2)
 | none =>
  obtain ⟨rfl,rfl⟩:=hnone rfl
  obtain rfl:olds=[]:=List.eq_nil_of_length_eq_zero (by simpa using hlo)
  obtain ⟨v',w',hrun,r1,r2,_⟩:=run_append_own (P:=P) w w.heap.size t o.type e i z size bytes h1 h2 h3 h4 h5 h6 h7 (.slice none 0 0) 0 [] (World.ownsRow_nil w _ e size) ad m c news hn hc h1c b1 b2 (Nat.le_refl _)
  unfold Oper.wpIn
  refine ⟨?_,?_⟩
  ·simp [Oper.about,hop,resolve,Target.leads,Sem.run_pure]
  ·rw [Oper.semAt_plain F _ _ (by rw [hop];intro c hc';cases hc')]
   simp [execOp,hop,resolve,invoke,builtin,hs,hx,hrun,Result.andThen]
   exact hK' _ _ (hK v' w' r1 r2)
theorem wpListIn_append_room {F:Fence} {nF:Nat} {P:Program} (w:World) {ops:Array Oper} {rest:List Oper} {o:Oper} {a:Act} {Q:Exit→Act→World→Prop}
  (hg:o.guard=none) (s x:Operand) (t:TypeId) (hop:o.op=Op.call { callee:=Callee.builtin Builtin.append,args:=#[s,x],argTypes:=#[t,t] })
  (A:Nat) (e:TypeId) (i:TypeInfo) (z:Value) (size bytes:Nat) (h1:P.underlying t=some (.slice e)) (h2:P.info? e=some i) (h3:i.zero=some z) (h4:i.size=size) (h5:i.bytes=bytes) (h6:z.cells.size=size) (h7:0<size)
  (ao:Option Addr) (n c:Nat) (xs:List Value) (hs:a.eval s = .slice ao n c) (hroom:Room A w e size ao c) (hle:n≤c) (hcap:c≤maxLen) (hlo:xs.length=n*size) (hblk:0<n→∃ g,ao=some ⟨g,0,none⟩∧A≤g∧Blk w g e (n*size) (fun j=>xs.getD j default))
  (ad:Addr) (m c':Nat) (news:List Value) (hx:a.eval x = .slice (some ad) m c') (hn:news.length=m*size) (hc:∀ j u,news[j]?=some u→w.cell? (ad.add j)=some u) (h1c:∀ u∈news,u.oneCell'=true)
  (hm:0<m) (b1:n+m≤maxLen) (b2:(n+m)*bytes≤140737488355328) (hA:A≤w.heap.size)
  (hK:∀ v' w',w'.ownsRow A e size v' (n+m) (xs++news)→Grew A e w w'→wpListIn F nF P ops Q rest (a.put o.dst v') w') :
  wpListIn F nF P ops Q (o :: rest) a w:=by
 rcases hroom with h0 | ⟨g,cur,ha,hA',hgc,hsz⟩
 ·subst h0
  have hn0:n=0:=by omega
  subst hn0
  obtain rfl:xs=[]:=List.eq_nil_of_length_eq_zero (by simpa using hlo)
  refine wpListIn_append_grows w hg s x t hop e i z size bytes h1 h2 h3 h4 h5 h6 h7 ao 0 0 [] hs (fun _=>⟨rfl,rfl⟩) (by simp) (fun b _ j u hj=>by simp at hj) ad m c' news hx hn hc h1c (by omega) b1 b2 fun v' w' r1 r2 => ?_
  exact hK v' w' (owns_mono r1 hA) ⟨none,r2,fun k hk=>by cases hk⟩
 ·subst ha
  have hown:=owns_of (w:=w) (e:=e) hA' hgc hsz hle hcap hlo (fun h=>by
   obtain ⟨g',e1,_,hb⟩:=hblk h
   simp only [Option.some.injEq,Addr.mk.injEq,and_true] at e1
   subst e1
   exact hb)
  refine wpListIn_append_own w hg s x t hop A e i z size bytes h1 h2 h3 h4 h5 h6 h7 _ n xs hs hown ad m c' news hx hn hc h1c b1 b2 hA fun v' w' r1 r2 _ => ?_
  refine hK v' w' r1 ⟨_,r2,fun k hk => ?_⟩
  simp only [Value.ownBlock,Option.some.injEq] at hk
  subst hk
  exact ⟨hA',cur,hgc⟩
theorem Grew.keeps {A:Nat} {e:TypeId} {w w':World} (h:Grew A e w w'):KeepsOthers w w':=by
 obtain ⟨row,hg,hr⟩:=h
 refine ⟨hg.size,fun k o hk ho => ?_⟩
 refine (hg.block k (Array.getElem?_eq_some_iff.1 hk).1 fun e' => ?_).trans hk
 obtain ⟨_,cur,hc⟩:=hr k e'.symm
 rw [hk] at hc
 cases hc
 cases ho
theorem OwnS.addM {A:Nat} {w w2:World} {s:St} {m:Hd} {v:Value} (h:OwnS A w s) (ho:w2.ownsRow A 63 4 v (s.ms.n+1) (flatH s.ms.n s.ms.z++hdCells m)) (hg:Grew A 63 w w2) :
  ∃ k:Hs,v = .slice k.a k.n k.c∧OwnS A w2 (withMoves s k)∧k.n=s.ms.n+1∧(∀ j,j<s.ms.n→k.z j=s.ms.z j)∧k.z s.ms.n=m:=by
 have e1:flatH s.ms.n s.ms.z++hdCells m=flatH (s.ms.n+1) (fun i=>if i=s.ms.n then m else s.ms.z i):=by
  rw [flatH_succ,if_pos rfl,flatH_congr (z':=fun i=>if i=s.ms.n then m else s.ms.z i) fun i hi=>by rw [if_neg (by omega)]]
 have ho':=ho
 rw [e1] at ho'
 obtain ⟨k,rfl,ok,kn,kz⟩:=OwnH.ofRow ho' (Nat.le_refl _)
 refine ⟨k,rfl,h.moreM hg ok ?_,kn,fun j hj=>by rw [kz];exact if_neg (by omega),by rw [kz];exact if_pos rfl⟩
 exact Room.ofOwns (a:=k.a) (n:=k.n) (c:=k.c) ho (Nat.le_refl _)
end Go.Proofs.YtbcacebifpagpagGreat
namespace Go.Proofs.YtbcacebifpagpagGreat
open Go.RowKit Go.Shelf Go.Sort
set_option linter.unusedVariables false
theorem OwnI.keepM {A g n:Nat} {w w':World} {r:Rw} {f:Nat→Value} (h:OwnI A w r) (hg:Blk w g 63 n f) (K:KeepG g w w'):OwnI A w' r:=by
 obtain ⟨q,ha,h0,h1,h2,hb⟩:=h
 exact ⟨q,ha,h0,h1,h2,K.blk hb (Blk.ne2 hb hg (by decide))⟩
theorem OwnH.keepM {A g n:Nat} {t:TypeId} {w w':World} {s:Hs} {f:Nat→Value} (h:OwnH A t w s) (hg:Blk w g 63 n f) (hne:t≠63) (K:KeepG g w w'):OwnH A t w' s:=by
 obtain ⟨h1,h2,h3,h4⟩:=h
 refine ⟨h1,h2,h3,fun hn => ?_⟩
 obtain ⟨q,ha,hA,hb⟩:=h4 hn
 exact ⟨q,ha,hA,K.blk hb (Blk.ne2 hb hg hne)⟩
theorem OwnO.keepM {A g n:Nat} {w w':World} {s:Os} {f:Nat→Value} (h:OwnO A w s) (hg:Blk w g 63 n f) (K:KeepG g w w'):OwnO A w' s:=by
 refine ⟨h.le,h.cap,fun hn => ?_,fun i hi => ?_,h.apart,?_⟩
 ·obtain ⟨q,a1,a2,a3⟩:=h.list hn
  exact ⟨q,a1,a2,K.blk a3 (Blk.ne2 a3 hg (by decide))⟩
 ·obtain ⟨C,a1,a2,a3,a4,a5⟩:=h.lines i hi
  exact ⟨C,a1,a2,a3,a4,K.blk a5 (Blk.ne2 a5 hg (by decide))⟩
 ·refine h.room.same fun q cur hq=>K.2 q (Array.getElem?_eq_some_iff.1 hq).1 fun e => ?_
  obtain ⟨c2,h1,_⟩:=hg
  rw [e,h1] at hq
  cases hq
theorem OwnS.keepM {A g n:Nat} {w w':World} {s:St} {h:Hs} {f:Nat→Value} (k:OwnS A w s) (hg:Blk w g 63 n f) (K:KeepG g w w') (hh:OwnH A 63 w' h) (hr:Room A w' 63 4 h.a h.c):OwnS A w' (Go.Proofs.YtbcacebifpagpagGreat.withMoves s h):=by
 refine ⟨?_,fun i hi=>(k.rows i hi).keepM hg K,k.rapart,k.os.keepM hg K,k.hs.keepM hg (by decide) K,hh,hr,k.si.keepM hg K,k.so.keepM hg K,k.sf.keepM hg K,k.aio,k.aif,k.aof,k.ari⟩
 obtain ⟨q,a0,a1,a2,a3,a4⟩:=k.on
 exact ⟨q,a0,a1,a2,a3,K.blk a4 (Blk.ne2 a4 hg (by decide))⟩
theorem run_clear4M (w:World) (ty:TypeId) (b o n c:Nat) (hn:0<n) (hc:∀ j,j<n*4→(w.cell? ⟨b,o+j,none⟩).isSome=true) (hf:∀ j,j<n*4→w.frozen? ⟨b,o+j,none⟩=false) :
  (Builtin.clear_ #[29] ty #[.slice (some ⟨b,o,none⟩) n c]).run Tryz.prog w = .ok (.tuple #[]) (w.setCells b o (List.replicate (n*4) (.int .i64 0))):=by
 have hzc:(Builtin.zeroCells (Value.agg #[.int .i64 0,.int .i64 0,.int .i64 0,.int .i64 0]).cells n).toList=List.replicate (n*4) (.int .i64 0):=by
  rw [show (Value.agg #[.int .i64 0,.int .i64 0,.int .i64 0,.int .i64 0]).cells=#[.int .i64 0,.int .i64 0,.int .i64 0,.int .i64 0] from rfl]
  apply List.ext_getElem
  ·simp [Builtin.zeroCells]
  ·intro i h1 h2
   have h4:i%4<4:=by omega
   simp [Builtin.zeroCells]
   generalize i%4=k at h4
   match k,h4 with
   | 0,_=>rfl
   | 1,_=>rfl
   | 2,_=>rfl
   | 3,_=>rfl
 have hst:=run_storeCells_cells (P:=Tryz.prog) b o (List.replicate (n*4) (.int .i64 0)) 0 w (by simpa using hc) (by simpa using hf) (by intro v hv';rw [List.eq_of_mem_replicate hv'];rfl)
 simp only [Nat.add_zero] at hst
 obtain ⟨m,rfl⟩:∃ m,n=m+1:=⟨n - 1,by omega⟩
 simp only [Builtin.clear_]
 simp [hzc,hst]
theorem infoMove:(Tryz.prog.info? 63).map (fun i=>(i.zero,i.size,i.bytes))=some (some (.agg #[.int .i64 0,.int .i64 0,.int .i64 0,.int .i64 0]),4,32):=by kernel_rfl
theorem cells_size {g:Nat} {e:TypeId} {m:Nat}:∀ (vs:List Value) (o:Nat) (w:World),(∃ cur,w.heap[g]?=some (.cells cur e (0,0))∧cur.size=m)→∃ cur,(w.setCells g o vs).heap[g]?=some (.cells cur e (0,0))∧cur.size=m
 | [],_,_,h=>h
 | v :: r,o,w,h=>by
  rw [World.setCells]
  refine cells_size r (o+1) _ ?_
  obtain ⟨cur,h1,h2⟩:=h
  exact ⟨cur.setIfInBounds o v,by simp [World.setCell,Array.getElem?_modify,h1],by simpa using h2⟩
theorem addr_add (g q j:Nat):(⟨g,q,none⟩:Addr).add j=⟨g,q+j,none⟩:=by
 unfold Addr.add
 split<;>simp_all
set_option maxRecDepth 100000 in
set_option maxHeartbeats 2000000 in
theorem DelM_row (A g n c k:Nat) (z:Nat→Hd) (w:World) (hA:A≤g) (hA2:A≤w.heap.size) (hn:n≤c) (hcap:c≤maxLen) (hk:k<n) (cur:Array Value) (hgc:w.heap[g]?=some (.cells cur 63 (0,0))) (hsz:cur.size=c*4) (hb:Blk w g 63 (n*4) (fun j=>(flatH n z).getD j default)) :
  Calls Tryz.prog 104 #[.slice (some ⟨g,0,none⟩) n c,.int .i64 (k:Int),.int .i64 ((k:Int)+1)] w fun e w'=>e = .returned (.slice (some ⟨g,0,none⟩) (n - 1) c)∧Blk w' g 63 ((n - 1)*4) (fun j=>(flatH (n - 1) (dropZ z k)).getD j default)∧(∃ cur',w'.heap[g]?=some (.cells cur' 63 (0,0))∧cur'.size=c*4)∧Below A w w'∧KeepG g w w':=by
 have hcap0:=hcap
 unfold maxLen at hcap
 obtain ⟨iM,hM,hM0,hM1,hM2⟩:=info_parts infoMove
 have HB:Hid (Blk w g 63 (n*4) (fun j=>(flatH n z).getD j default)∧w.heap[g]?=some (.cells cur 63 (0,0))∧cur.size=c*4):=⟨hb,hgc,hsz⟩
 clear hb hgc hsz
 have k0:(0:Int)≤(k:Int):=by omega
 have k1:(k:Int)+1≤(n:Int):=by omega
 have k2:((k:Int)+1).toNat=k+1:=by omega
 have k3:((k:Int)==(k:Int)+1)=false:=beq_eq_false_iff_ne.2 (by omega)
 go_enter Tryz.func104,Tryz.ntmps104
 go_wp2_with fail
 have HWD:Hid (Below w.heap.size w w.drew∧w.drew.heap=w.heap):=⟨(Below.refl _ _).drew,rfl⟩
 refine wp_region_ph [(true,[0,1,2,3,4,5],some 6),(false,[7],none)] (by kernel_rfl) (by kernel_rfl) (by kernel_rfl) (by kernel_rfl) (by kernel_rfl) ?_
 refine ⟨fun w'=>∃ p:Regrown,w'=grow (redrawn w p.d) p.os,regrown_of_below ((Below.refl _ _).drew),fun h=>(by cases h),?_⟩
 simp only [picks,List.drop_succ_cons,List.drop_zero,List.take_succ_cons,List.take_zero,List.cons_append,List.nil_append]
 have HOW:Hid (∀ c',c'=c→w.drew.ownsRow A 63 4 (.slice (some ⟨g,0,none⟩) k c') k (flatH k z)):=fun c' hc'=>by
  subst hc'
  refine owns_of (w:=w.drew) (cur:=cur) hA HB.out.2.1 HB.out.2.2 (by omega) hcap0 (flatH_len _ _) fun h => ?_
  have hb:Blk w.drew g 63 (n*4) (fun j=>(flatH n z).getD j default):=HB.out.1.below HWD.out.1
  refine (hb.less (by omega)).congr fun j hj => ?_
  rw [hc_flat (by omega),hc_flat (by omega)]
 have HNW:Hid (∀ j u,(flatH (n - (k+1)) (fun j=>z (k+1+j)))[j]?=some u→w.drew.cell? ⟨g,(k+1)*4+j,none⟩=some u):=fun j u hj=>by
  have hl:j<(n - (k+1))*4:=by
   have:=(List.getElem?_eq_some_iff.1 hj).1
   rw [flatH_len] at this
   exact this
  have hb:Blk w.drew g 63 (n*4) (fun j=>(flatH n z).getD j default):=HB.out.1.below HWD.out.1
  have h1:=hb.cell (j:=(k+1)*4+j) (by omega)
  rw [h1,hc_flat (by omega)]
  have h2:(flatH (n - (k+1)) (fun j=>z (k+1+j))).getD j default=u:=by simp [List.getD,hj]
  rw [← h2,hc_flat hl]
  unfold hc
  rw [show ((k+1)*4+j)/4=k+1+j/4 by omega,show ((k+1)*4+j)%4=j%4 by omega]
 have HEN:Hid (∀ w',w'.ownsRow A 63 4 (.slice (some ⟨g,0,none⟩) (n - 1) c) (n - 1) (flatH k z++flatH (n - (k+1)) (fun j=>z (k+1+j)))→w.drew.grownBy w' (some g)→
   (∀ ty,(Builtin.clear_ #[29] ty #[.slice (some ⟨g,(n - 1)*4,none⟩) 1 (c - (n - 1))]).run Tryz.prog w' = .ok (.tuple #[]) (w'.setCells g ((n - 1)*4) (List.replicate (1*4) (.int .i64 0)))) ∧
   ∀ w2,w2=w'.setCells g ((n - 1)*4) (List.replicate (1*4) (.int .i64 0))→Blk w2 g 63 ((n - 1)*4) (fun j=>(flatH (n - 1) (dropZ z k)).getD j default)∧(∃ cur',w2.heap[g]?=some (.cells cur' 63 (0,0))∧cur'.size=c*4)∧Below A w w2∧KeepG g w w2):=fun w' ho hg=>by
  obtain ⟨_,⟨h,_⟩ | ⟨g',c',cur',h,hA',hg',h1,h2,h3,h4⟩⟩:=ho
  ·cases h
  ·simp only [Value.slice.injEq,Option.some.injEq,Addr.mk.injEq,and_true,true_and] at h
   obtain ⟨rfl,rfl⟩:=h
   have hlt:(n - 1)*4+4≤cur'.size:=by rw [h3];omega
   have hB4:Blk w' g 63 cur'.size (fun j=>cur'.getD j default):=⟨cur',hg',Nat.le_refl _,fun j hj=>by simp [Array.getD,hj]⟩
   have hb:Blk w' g 63 ((n - 1)*4) (fun j=>(flatH (n - 1) (dropZ z k)).getD j default):=by
    refine ⟨cur',hg',by omega,fun j hj => ?_⟩
    rw [flatH_drop n z k hk,← h4]
    have e:(cur'.toList.take ((n - 1)*4))[j]?=cur'[j]?:=by rw [List.getElem?_take,if_pos hj];simp
    have e2:j<cur'.size:=by omega
    simp only [List.getD,e]
    simp [e2]
   have hkg:KeepG g w w':=⟨by have:=hg.size;exact this,fun q hq hne=>hg.block q hq (fun e=>hne (by cases e;rfl))⟩
   have hbl:Below A w w':=(HWD.out.1.mono hA2).grown hg hA2 (fun q e=>by cases e;exact hA)
   refine ⟨fun ty=>run_clear4M w' ty g ((n - 1)*4) 1 (c - (n - 1)) (by omega) (fun j hj=>by rw [hB4.cell (by omega)];rfl) (fun j _=>hB4.frozen _),fun w2 e => ?_⟩
   subst e
   exact ⟨Blk.setCells _ _ _ hb (Nat.le_refl _),cells_size _ _ _ ⟨cur',hg',h3⟩,below_cells hA _ _ _ hbl,hkg.cells _ _ _⟩
 clear hA hcap0 HWD HB
 by_cases hc1:c=k+1
 ·subst hc1
  obtain rfl:n=k+1:=by omega
  repeat (go_big_quiet_step (fail))
  refine wpQuiet_nil ?_
  generalize w.drew=wj at *
  refine wpOp_one 6 rfl ?_
  (refine wpList_append_fits_any wj rfl (.tmp 22) (.tmp 25) 29 rfl A 63 iM 4 Tryz.underlying29 hM hM1 g k (k+1) (flatH k z) rfl (HOW.out (k+1) rfl) (some ⟨g,0,none⟩) 0 0 [] rfl rfl (fun e=>by cases e) (fun ad e j u hj=>by cases hj) (fun u hu=>by cases hu) (by omega) ?_)
  intro w2 ho hg2
  rw [show k+0=k+1 - 1 by omega] at ho ⊢
  obtain ⟨hcl,hend⟩:=HEN.out w2 (by rw [show k+1 - (k+1)=0 by omega];exact ho) hg2
  have HEND:Hid _:=hend
  have hcl2:∀ ty,(Builtin.clear_ #[29] ty #[.slice (some ⟨g,k*4,none⟩) 1 1]).run Tryz.prog w2 = .ok (.tuple #[]) (w2.setCells g (k*4) (List.replicate (1*4) (.int .i64 0))):=fun ty=>by
   have h:=hcl ty
   rw [show k+1 - 1=k by omega,show k+1 - k=1 by omega] at h
   exact h
  clear hcl
  clear ho hg2 HEN HOW HNW hend
  simp only [Act.put,List.setIfInBounds_toArray,List.set_cons_succ,List.set_cons_zero]
  refine (?_:wpList _ _ _ [] _ _)
  go_wp2_with fail
  refine ⟨fun _=>True,trivial,fun _ _=>trivial,?_⟩
  simp only [picks,List.drop_succ_cons,List.drop_zero,List.take_succ_cons,List.take_zero,List.cons_append,List.nil_append]
  repeat (go_big_quiet_step (fail))
  refine wpQuiet_nil ?_
  refine NoPanic.normal ?_
  have hz1:¬ k+1=k+1 - 1:=by omega
  have hz2:(k+1 - 1)≤k+1:=by omega
  have hz3:k+1 - (k+1 - 1)=1:=by omega
  go_wp2_with fail
  go_ret
  exact ⟨rfl,HEND.out _ rfl⟩
 ·repeat (go_big_quiet_step (fail))
  refine wpQuiet_nil ?_
  generalize w.drew=wj at *
  refine wpOp_one 6 rfl ?_
  (refine wpList_append_fits_any wj rfl (.tmp 22) (.tmp 25) 29 rfl A 63 iM 4 Tryz.underlying29 hM hM1 g k c (flatH k z) rfl (HOW.out c rfl) (some ⟨g,(k+1)*4,none⟩) (n - (k+1)) (c - (k+1)) (flatH (n - (k+1)) (fun j=>z (k+1+j))) rfl (flatH_len _ _) (fun e=>by cases e) (fun ad e j u hj=>by cases e;rw [addr_add];exact HNW.out j u hj) (flatH_one _ _) (by omega) ?_)
  intro w2 ho hg2
  rw [show k+(n - (k+1))=n - 1 by omega] at ho ⊢
  obtain ⟨hcl,hend⟩:=HEN.out w2 ho hg2
  have HEND:Hid _:=hend
  clear ho hg2 HEN HOW HNW hend
  simp only [Act.put,List.setIfInBounds_toArray,List.set_cons_succ,List.set_cons_zero]
  refine (?_:wpList _ _ _ [] _ _)
  go_wp2_with fail
  refine ⟨fun _=>True,trivial,fun _ _=>trivial,?_⟩
  simp only [picks,List.drop_succ_cons,List.drop_zero,List.take_succ_cons,List.take_zero,List.cons_append,List.nil_append]
  repeat (go_big_quiet_step (fail))
  refine wpQuiet_nil ?_
  refine NoPanic.normal ?_
  have hz1:¬ c=n - 1:=by omega
  have hz2:(n - 1)≤n:=by omega
  have hz3:n - (n - 1)=1:=by omega
  go_wp2_with fail
  go_ret
  exact ⟨rfl,HEND.out _ rfl⟩
theorem DelM_any (A:Nat) (s:St) (k:Nat) (w:World) (hA2:A≤w.heap.size) (hO:OwnS A w s) (hk:k<s.ms.n) :
  Calls Tryz.prog 104 #[.slice s.ms.a s.ms.n s.ms.c,.int .i64 (k:Int),.int .i64 ((k:Int)+1)] w fun e w'=>e = .returned (.slice s.ms.a (s.ms.n - 1) s.ms.c)∧OwnS A w' (withMoves s (delM s.ms k))∧Below A w w'∧(∀ q t m g,t≠63→Blk w q t m g→Blk w' q t m g):=by
 obtain ⟨h1,h2,h3,h4⟩:=hO.ms
 obtain ⟨g,ha,hA,hb⟩:=h4 (by omega)
 rcases hO.msr with h0 | ⟨g',cur,ha',hA',hgc,hsz⟩
 ·omega
 ·rw [ha] at ha'
  simp only [Option.some.injEq,Addr.mk.injEq,and_true] at ha'
  subst ha'
  have hD:=DelM_row A g s.ms.n s.ms.c k s.ms.z w hA hA2 h1 h2 hk cur hgc hsz hb
  rw [ha]
  refine hD.mono ?_
  rintro e w1 ⟨rfl,hb3,⟨cur',hg',hs'⟩,hB,hK⟩
  refine ⟨rfl,hO.keepM hb hK ⟨by show s.ms.n - 1≤s.ms.c;omega,h2,h3,fun _=>⟨g,ha,hA,hb3⟩⟩ (Or.inr ⟨g,cur',ha,hA,hg',hs'⟩),hB,fun q t m f' hne hbq=>hK.blk hbq (Blk.ne2 hbq hb hne)⟩
end Go.Proofs.YtbcacebifpagpagGreat
namespace Go.Proofs.YtbcacebifpagpagGreat
open Go.RowKit
set_option linter.unusedVariables false
theorem OwnS.rowBlk {A:Nat} {w:World} {s:St} (h:OwnS A w s) {b G:Nat} (hb:b<s.on.n) (ha:(s.on.r b).a=some ⟨G,0,none⟩):A≤G∧Blk w G 3 (s.on.r b).n (fun j => .int .i64 ((s.on.r b).z j)):=by
 obtain ⟨Gq,b1,b2,b3,b4,b5⟩:=h.rows b hb
 rw [ha] at b1
 simp only [Option.some.injEq,Addr.mk.injEq,and_true] at b1
 subst b1
 exact ⟨b2,b5⟩
theorem RelK.setOn {A B7:Nat} {W0 wk:World} {cur:St} (h:RelK A B7 W0 cur wk) (hA:W0.heap.size≤A) {b G:Nat} (hb:b<cur.on.n) (ha:(cur.on.r b).a=some ⟨G,0,none⟩) (g:Nat) (v:Int):RelK A B7 W0 (Go.Proofs.YtbcacebifpagpagGreat.setOn cur b g v) (wk.setCell ⟨G,g,none⟩ (.int .i64 v)):=by
 obtain ⟨h1,h2⟩:=h.own.rowBlk hb ha
 exact ⟨h.own.setOn hb ha g v,h.box.other (a:=⟨G,g,none⟩) (Blk.ne2 h.box h2 (by decide)) _,h.bel.setCell (p:=⟨G,g,none⟩) (by show W0.heap.size≤G;omega) _,by have:=h.le;simpa using this⟩
theorem RelK.moves {A B7:Nat} {W0 wk:World} {cur:St} (h:RelK A B7 W0 cur wk) (hA:W0.heap.size≤A) (hB:A≤B7) {wj:World} {m:Hs} (ho:OwnS A wj (withMoves cur m)) (hb:Below A wk wj) (hk:∀ q t n g,t≠63→Blk wk q t n g→Blk wj q t n g):RelK A B7 W0 (withMoves cur m) (wj.setCell ⟨B7,3,none⟩ (.slice m.a m.n m.c)):=by
 have hbox:=hk _ _ _ _ (by decide) h.box
 refine ⟨ho.box hbox 3 _,(hbox.set 3 _).congr fun j hj => ?_,(h.bel.trans (hb.mono hA)).setCell (p:=⟨B7,3,none⟩) (by show W0.heap.size≤B7;omega) _,by have:=hb.size;have:=h.le;simp;omega⟩
 match j,hj with
 | 0,_=>rfl
 | 1,_=>rfl
 | 2,_=>rfl
 | 3,_=>rfl
 | 4,_=>rfl
 | 5,_=>rfl
 | 6,_=>rfl
theorem RelK.more {A B7:Nat} {W0 wk w2:World} {x:St} {m:Hd} {v:Value} (h:RelK A B7 W0 x wk) (hA:W0.heap.size≤A) (hB:A≤B7) (ho:w2.ownsRow A 63 4 v (x.ms.n+1) (flatH x.ms.n x.ms.z++hdCells m)) (hg:Grew A 63 wk w2) :
  ∃ k:Hs,v = .slice k.a k.n k.c∧RelK A B7 W0 (withMoves x k) (w2.setCell ⟨B7,3,none⟩ (.slice k.a k.n k.c))∧k.n=x.ms.n+1∧(∀ j,j<x.ms.n→k.z j=x.ms.z j)∧k.z x.ms.n=m∧Blk w2 B7 31 7 (fun j=>x.cells.getD j default):=by
 obtain ⟨k,rfl,ok,kn,kz,kl⟩:=h.own.addM ho hg
 have hbox:=hg.blk h.box (by decide)
 refine ⟨k,rfl,⟨ok.box hbox 3 _,(hbox.set 3 _).congr fun j hj => ?_,(hg.below h.bel hA h.bel.size).setCell (p:=⟨B7,3,none⟩) (by show W0.heap.size≤B7;omega) _,?_⟩,kn,kz,kl,hbox⟩
 ·match j,hj with
  | 0,_=>rfl
  | 1,_=>rfl
  | 2,_=>rfl
  | 3,_=>rfl
  | 4,_=>rfl
  | 5,_=>rfl
  | 6,_=>rfl
 ·have h3:=(hg.below (Below.refl A wk) (Nat.le_refl _) h.le).size
  have:=h.le
  simp
  omega
theorem news4 (w:World) (Z:Hd) (e:TypeId):∀ j u,(hdCells Z)[j]?=some u→(w.alloc (.cells #[.int .i64 Z.o,.int .i64 Z.l,.int .i64 Z.b,.int .i64 Z.n] e)).cell? ((⟨w.heap.size,0,none⟩:Addr).add j)=some u:=by
 intro j u hj
 rw [addr_add,Nat.zero_add]
 have K:=Blk.new w #[.int .i64 Z.o,.int .i64 Z.l,.int .i64 Z.b,.int .i64 Z.n] e
 have hl:j<4:=(List.getElem?_eq_some_iff.1 hj).1
 rw [K.cell (j:=j) hl,← hj]
 match j,hl with
 | 0,_=>rfl
 | 1,_=>rfl
 | 2,_=>rfl
 | 3,_=>rfl
end Go.Proofs.YtbcacebifpagpagGreat
namespace Go.Proofs.YtbcacebifpagpagGreat
open Go.RowKit Go.Shelf
set_option linter.unusedVariables false
attribute [local go_sem] Oper.semAt_some
set_option maxRecDepth 100000 in
set_option maxHeartbeats 2000000 in
theorem binsX1_in (F:Fence) (n:Nat) (h6:F.fn 149) (hro:F.round=none) (hn:1≤n) (l Bp Bf n₀:Nat) (p:Pl) (f:Bool) (J Jx:List (BinX p f)→World→Prop)
  (hY:∀ pre x W,J pre W→pre.length<p.nb→YieldAt F (n - 1) Tryz.prog l #[.int .i64 (x.1:Int)] W fun e W' =>
   (e = .returned (.bool true)∧J (pre++[x]) W'∧keepsB n₀ Bf W W')∨(e = .returned (.bool false)∧Jx (pre++[x]) W'))
  (W:World) (hJ:AbidesFrom W.heap.size J) (hn₀:n₀≤W.heap.size) (hBp:W.cell? ⟨Bp,0,none⟩=some (.slice p.ab p.nb p.cb)) (hBf:W.cell? ⟨Bf,0,none⟩=some (.bool f)) (hle:p.nb≤p.cb) (hcap:p.cb≤maxLen)
  (hL:∀ W',Below n₀ W W'→BinsAt W' p.ab p.nb p.zb) (h0:J [] W) :
  CallsIn F n Tryz.prog 149 #[.func (.yield l) #[] #[],.pointer (some ⟨Bp,0,none⟩),.pointer (some ⟨Bf,0,none⟩)] W fun e W'=>(∃ v,e = .returned v) ∧
   ((∃ ys,ys=frX p f p.nb∧J ys W')∨(∃ pre,pre <+: frX p f p.nb∧Jx pre W')):=by
 unfold maxLen at hcap
 have hS:Hid (∀ wr,Below n₀ W wr→W.heap.size≤wr.heap.size):=fun wr h=>h.size
 have HJA:Hid (∀ pre A o,J pre A→J pre (A.alloc o)):=fun pre A o h=>hJ pre A (A.alloc o) none h (World.grownBy_alloc A o none) (fun r e=>by cases e)
 refine callsIn_of_wp Tryz.func149 rfl h6 ?_ hro
 simp only [Tryz.ntmps149,List.size_toArray,List.length_cons,List.length_nil,Nat.reduceAdd,Nat.reduceSub,Array.replicate_succ,Array.replicate_zero,List.push_toArray,List.append_toArray,List.nil_append,List.cons_append]
 gi_wp2
 gi_loopw [9] (fun i wr=>∃ k:Nat,k≤p.nb∧i = .int .i64 k∧J (frX p f k) wr∧Below n₀ W wr∧wr.cell? ⟨Bf,0,none⟩=some (.bool f)) (fun i _=>p.nb - (intOf i).toNat)
 case atStart=>exact ⟨0,Nat.zero_le _,rfl,h0,Below.refl _ _,hBf⟩
 case round =>
  obtain ⟨k,hk,rfl,hJs,hB,hcf⟩:=hrel
  by_cases hlt:k<p.nb
  ·obtain ⟨b,o,hab,hb,z0,z1,z2,z3⟩:=hL _ hB k hlt
   have m1:(0:Int)≤(k:Int):=by omega
   have hltf:Bf<wr.heap.size:=World.block_lt_of_cell? wr _ hcf
   have hfl:=frX_len p f k
   rw [hab]
   clear hab
   by_cases hf:(p.zb k).front=f
   ·rw [hf] at z0
    have hJa:=HJA.out _ wr (.cells #[.bool f,.int .i64 (p.zb k).room,.int .i64 (p.zb k).low,.int .i64 (p.zb k).high] 68) hJs
    obtain ⟨fn,tmps,assign,body,hy,hR⟩:=hY (frX p f k) ⟨k,hlt,hf⟩ _ hJa (by omega)
    gi_wp2
    refine hR.mono ?_
    rintro e W3 (⟨rfl,hJ3,hk3⟩ | ⟨rfl,hJx3⟩)
    ·have hB3:Below n₀ W W3:=(hB.alloc (Nat.le_trans hn₀ (hS.out wr hB)) _).trans hk3.1
     have hc3:W3.cell? ⟨Bf,0,none⟩=some (.bool f):=hk3.2 _ ((((Below.refl wr.heap.size wr).alloc (Nat.le_refl _) _).cell (p:=⟨Bf,0,none⟩) hltf).trans hcf)
     rw [← frX_hit ⟨hlt,hf⟩] at hJ3
     clear hk3 hR
     gi_wp2
     go_roundw
     case rel=>exact ⟨k+1,by omega,by go_num,hJ3,hB3,hc3⟩
     case measure=>simp [intOf];omega
    ·rw [← frX_hit ⟨hlt,hf⟩] at hJx3
     gi_wp2
     refine bodyPost_ret (results_none rfl _ _ _) rfl ?_
     exact ⟨⟨_,rfl⟩,.inr ⟨frX p f (k+1),frX_prefix p f (by omega),hJx3⟩⟩
   ·have hJa:=HJA.out _ wr (.cells #[.bool (p.zb k).front,.int .i64 (p.zb k).room,.int .i64 (p.zb k).low,.int .i64 (p.zb k).high] 68) hJs
    rw [← frX_miss hf] at hJa
    have hBa:=hB.alloc (Nat.le_trans hn₀ (hS.out wr hB)) (.cells #[.bool (p.zb k).front,.int .i64 (p.zb k).room,.int .i64 (p.zb k).low,.int .i64 (p.zb k).high] 68)
    have hca:=(((Below.refl wr.heap.size wr).alloc (Nat.le_refl _) (.cells #[.bool (p.zb k).front,.int .i64 (p.zb k).room,.int .i64 (p.zb k).low,.int .i64 (p.zb k).high] 68)).cell (p:=⟨Bf,0,none⟩) hltf).trans hcf
    have HA:Hid (J (frX p f (k+1)) (wr.alloc (.cells #[.bool (p.zb k).front,.int .i64 (p.zb k).room,.int .i64 (p.zb k).low,.int .i64 (p.zb k).high] 68))∧Below n₀ W (wr.alloc (.cells #[.bool (p.zb k).front,.int .i64 (p.zb k).room,.int .i64 (p.zb k).low,.int .i64 (p.zb k).high] 68))∧(wr.alloc (.cells #[.bool (p.zb k).front,.int .i64 (p.zb k).room,.int .i64 (p.zb k).low,.int .i64 (p.zb k).high] 68)).cell? ⟨Bf,0,none⟩=some (.bool f)):=⟨hJa,hBa,hca⟩
    clear hJa hBa hca
    gi_wp2
    refine ⟨fun _ h=>(by cases h),?_⟩
    gi_wp2
    go_roundw
    case rel=>exact ⟨k+1,by omega,by go_num,HA.out.1,HA.out.2.1,HA.out.2.2⟩
    case measure=>simp [intOf];omega
  ·gi_wp2
   go_end0
   have hkn:k=p.nb:=by omega
   subst hkn
   exact ⟨⟨_,rfl⟩,.inl ⟨_,rfl,hJs⟩⟩
theorem binsX_stops (F:Fence) (n:Nat) (h6:F.fn 149) (hro:F.round=none) (hn:1≤n) (Bp Bf n₀:Nat) (p:Pl) (f:Bool) (w:World) (hBp:Bp<w.heap.size) (hBf:Bf<w.heap.size) (hn₀:n₀≤w.heap.size)
  (hcp:w.cell? ⟨Bp,0,none⟩=some (.slice p.ab p.nb p.cb)) (hcf:w.cell? ⟨Bf,0,none⟩=some (.bool f)) (hle:p.nb≤p.cb) (hcap:p.cb≤maxLen) (hL:∀ W',Below n₀ w W'→BinsAt W' p.ab p.nb p.zb) :
  SeqStopsK F n Tryz.prog 149 #[.pointer (some ⟨Bp,0,none⟩),.pointer (some ⟨Bf,0,none⟩)] (fun x:BinX p f=>#[Value.int .i64 (x.1:Int)]) (keepsB n₀ Bf) (fun ys=>ys=frX p f p.nb) (fun pre=>pre <+: frX p f p.nb) p.nb w:=fun l J Jx W hW hJ _ hY h0 =>
 binsX1_in F n h6 hro hn l Bp Bf n₀ p f J Jx hY W hJ (Nat.le_trans hn₀ hW.size) ((hW.cell (p:=⟨Bp,0,none⟩) hBp).trans hcp) ((hW.cell (p:=⟨Bf,0,none⟩) hBf).trans hcf) hle hcap (fun W' h=>hL W' ((hW.mono hn₀).trans h)) h0
end Go.Proofs.YtbcacebifpagpagGreat
namespace Go.Proofs.YtbcacebifpagpagGreat
open Go Go.Sort Go.RowKit
set_option linter.unusedVariables false
def noDefer (l:List Oper):Bool:=l.all fun o=>match o.op with | .defer _=>false | _=>true
theorem noDefer_at {l:List Oper} (h:noDefer l=true) {i:Nat} {o:Oper} (ho:l.toArray[i]?=some o):∀ c,o.op ≠ .defer c:=by
 intro c e
 have hm:o∈l:=by
  rw [List.getElem?_toArray] at ho
  exact List.mem_of_getElem? ho
 have:=List.all_eq_true.1 h o hm
 rw [e] at this
 cases this
section
variable {F:Fence} {n:Nat} {P:Program} {C:World→Prop} {md:Region.Mode}
theorem wpIn_of_quietR {o:Oper} {a:Act} {K:Act→Prop} {K':Act→World→Prop} {Q':Exit→Act→World→Prop} {w:World} (hro:∀ c,o.op ≠ .defer c) (hw:C w) (h:∀ a w',C w'→K a→K' a w')
  (ha:o.askedIn F P a C) (hh:o.quietIn F n P a C K):o.wpIn F n P a w K' Q':=by
 obtain ⟨v,h1,h2⟩:=hh
 have h3:=h1 w hw
 unfold Oper.quietAtIn at h3
 unfold Oper.wpIn
 refine ⟨ha w hw,?_⟩
 rw [Oper.semAt_plain F _ _ hro]
 generalize (execOp a.eval o).run P w=r at *
 cases r with
 | ok x w' =>
  cases x<;>simp only [Oper.quietUponIn] at h3<;>simp only [Oper.uponIn]
  case value u =>
   obtain ⟨e1,e2⟩:=h3
   rw [e1,e2]
   exact h _ _ hw h2
  case skip =>
   obtain ⟨e1,e2⟩:=h3
   rw [e1,← e2]
   exact h _ _ hw h2
  case enter f args =>
   obtain ⟨e1,hd,hc⟩:=h3
   rw [e1]
   exact ⟨hd,hc.mono fun e w'' ⟨he,hw''⟩=>by subst he;exact h _ _ hw'' h2⟩
 | halt x w'=>simp only [Oper.quietUponIn] at h3
variable {l:List Oper}
theorem wpOpIn_of_qOpInR {i:Nat} {a:Act} {K:Act→Prop} {K':Act→World→Prop} {Q':Exit→Act→World→Prop} {w:World} (hro:noDefer l=true) (hC:C w) (h:∀ a w',C w'→K a→K' a w')
  (hh:qOpIn F n P l.toArray C i K a):wpOpIn F n P l.toArray Q' i K' a w:=by
 unfold qOpIn at hh
 unfold wpOpIn
 split
 ·rename_i ho;simp only [ho] at hh;exact h _ _ hC hh
 ·rename_i o ho
  simp only [ho] at hh
  obtain ⟨ha,hh⟩:=hh
  split
  ·rename_i hw;simp only [hw,if_true] at hh;exact wpIn_of_quietR (noDefer_at hro ho) hC h ha hh
  ·rename_i hw;simp only [hw] at hh;exact ⟨ha w hC,h _ _ hC hh⟩
theorem wpAnyIn_of_quietR {Q:Act→Prop} {Q':Exit→Act→World→Prop} (hro:noDefer l=true) (hQ:∀ a w,C w→Q a→Q' .normal a w):∀ (fuel:Nat) (listed:Array Bool) (a:Act) (w:World),C w →
  wpAnyQIn F n P md l.toArray C Q fuel listed a→wpAnyIn F n P md l.toArray Q' fuel listed a w
 | 0,_,_,_,hw,h=>⟨h.1,hQ _ _ hw h.2⟩
 | fuel+1,_,_,_,hw,h=>⟨fun h0=>hQ _ _ hw (h.1 h0),fun i hi=>wpOpIn_of_qOpInR hro hw (fun a' w' hw'=>wpAnyIn_of_quietR hro hQ fuel _ a' w' hw') (h.2 i hi)⟩
theorem wpIn_region_quietR {id:Nat} {Q:Exit→Act→World→Prop} {a:Act} {w:World} (hro:noDefer l=true) (hm:P.follows .mixedOrders=true) (hB:Region.lexB .any l.toArray=true) (hC:C { w with drawn:=w.drawn+1 })
  (h:wpQuietIn F n P l.toArray C (fun a'=>∀ w',C w'→Q .normal a' w') l a):(Code.region id l.toArray true).wpIn F n P Q a w:=by
 simp only [Region.lexB,Bool.and_eq_true] at hB
 refine wpIn_region_any hm (wpAnyIn_of_quietR (Q:=fun a'=>∀ w',C w'→Q .normal a' w') hro (fun _ w' hw' h=>h w' hw') _ _ _ _ hC ?_)
 have:=wpAnyQIn_lex (F:=F) (n:=n) (C:=C) (md := .any) hB.1 l 0 (Array.replicate l.toArray.size false) a (by simp) (by simpa using hB.2) h
 simpa using this
theorem wpIn_region_quiet_belowR {id:Nat} {Q:Exit→Act→World→Prop} {a:Act} {w:World} (hro:noDefer l=true) (hm:P.follows .mixedOrders=true) (hB:Region.lexB .any l.toArray=true)
  (h:wpQuietIn F n P l.toArray (fun w'=>∃ p:Regrown,w'=grow (redrawn w p.d) p.os) (fun a'=>∀ w',(∃ p:Regrown,w'=grow (redrawn w p.d) p.os)→Q .normal a' w') l a):(Code.region id l.toArray true).wpIn F n P Q a w :=
 wpIn_region_quietR (C:=fun w'=>∃ p:Regrown,w'=grow (redrawn w p.d) p.os) hro hm hB ⟨⟨w.drawn+1,#[]⟩,by rw [grow_empty];rfl⟩ h
end
end Go.Proofs.YtbcacebifpagpagGreat
namespace Go.Proofs.YtbcacebifpagpagGreat
open Go.RowKit Go.Shelf Go.Sort
set_option linter.unusedVariables false
theorem Avail_rightW (p:Pl) (s:St) (b g:Nat) (w:World) (hp:p.At w) (hs:s.At w) (h:stateE p s=0) (hb:b<p.nb) (hg:g<p.ns) :
  Calls Tryz.prog 105 #[.agg #[.slice p.ab p.nb p.cb,.slice p.sa p.ns p.cs],.agg #[.slice s.on.a s.on.n s.on.c,.slice s.os.a s.os.n s.os.c,.slice s.hs.a s.hs.n s.hs.c,.slice s.ms.a s.ms.n s.ms.c,.slice s.si.a s.si.n s.si.c,.slice s.so.a s.so.n s.so.c,.slice s.sf.a s.sf.n s.sf.c],.int .i64 (b:Int),.int .i64 (g:Int)] w fun e w'=>e = .returned (.tuple #[.int .i64 (availZ s b g),.int .i64 0])∧Below w.heap.size w w':=by
 have k:=Avail_any p s b g w hp hs
 rw [(avail_okA h hb hg).1,(avail_okA h hb hg).2] at k
 exact k
theorem Check_rightW (p:Pl) (s:St) (w:World) (hp:p.At w) (hs:s.At w) (h:stateE p s=0) :
  Calls Tryz.prog 16 #[.agg #[.slice p.ab p.nb p.cb,.slice p.sa p.ns p.cs],.agg #[.slice s.on.a s.on.n s.on.c,.slice s.os.a s.os.n s.os.c,.slice s.hs.a s.hs.n s.hs.c,.slice s.ms.a s.ms.n s.ms.c,.slice s.si.a s.si.n s.si.c,.slice s.so.a s.so.n s.so.c,.slice s.sf.a s.sf.n s.sf.c]] w fun e w'=>e = .returned (.int .i64 0)∧Below w.heap.size w w':=by
 have k:=stateCheck_any p s w hp hs
 rw [h] at k
 exact k
theorem free_okF {p:Pl} {s:St} {b:Nat} (h:stateE p s=0) (hb:b<p.nb):freeE p s b=0∧freeV p s b=freeZ p s b:=by
 have f:=(rightT h).fm
 have hu:usedE p s.on b=0:=by unfold usedE;rw [f.sh0];simp only [beq_self_eq_true,if_true];rw [inB_mk (by have:=f.sh.n;omega)];rfl
 have e:freeE p s b=0:=by unfold freeE;rw [if_pos h,hu]
 exact ⟨e,by unfold freeV;rw [if_pos e];rfl⟩
theorem Free_rightW (p:Pl) (s:St) (b:Nat) (w:World) (hp:p.At w) (hs:s.At w) (h:stateE p s=0) (hb:b<p.nb) :
  Calls Tryz.prog 88 #[p.val,s.val,.int .i64 (b:Int)] w fun e w'=>e = .returned (.tuple #[.int .i64 (freeZ p s b),.int .i64 0])∧Below w.heap.size w w':=by
 have k:=Free_any p s b w hp hs
 rw [(free_okF h hb).1,(free_okF h hb).2] at k
 exact k
theorem lying_bdF {p:Pl} {s:St} (F:Formed p s) {b g:Nat} (hb:b<p.nb) (hg:g<p.ns):0≤lyingZ s b g∧lyingZ s b g≤1800:=by
 have h1:=F.sh.num b (by rw [F.sh.n];exact hb) g hg
 have h2:=comingTo_bd (s:=s) (b:=b) (g:=g) F.moveN
 have h3:=F.ms8
 unfold lyingZ
 omega
theorem free_bdF {p:Pl} {s:St} (F:Formed p s) {b:Nat} (hb:b<p.nb) : -30000≤freeZ p s b∧freeZ p s b≤1000:=by
 have hbn:b<s.on.n:=by rw [F.sh.n];exact hb
 have h1:=usedTo_bd (z:=(s.on.r b).z) (zs:=p.zs) (n:=p.ns) (fun j hj=>⟨F.sh.num b hbn j hj,F.sh.pl.sizes j hj⟩) p.ns (Nat.le_refl _)
 have h2:=takeTo_bd F b s.ms.n (Nat.le_refl _)
 have h3:=F.ms8
 have h4:=F.sh.pl.ns3
 have h5:=F.sh.pl.bins b hb
 rw [badBin_eq] at h5
 simp only [Bool.or_eq_false_iff,Bool.not_eq_false'] at h5
 have:=inB_true h5.1.1
 unfold freeZ
 omega
theorem high_bdF {p:Pl} (r:RightP p) {b:Nat} (hb:b<p.nb):(0≤(p.zb b).high∧(p.zb b).high≤200)∧0≤(p.zb b).low∧(p.zb b).low≤200:=by
 have h5:=r.bins b hb
 rw [badBin_eq] at h5
 simp only [Bool.or_eq_false_iff,Bool.not_eq_false'] at h5
 have:=inB_true h5.1.2
 have:=inB_true h5.2
 omega
theorem avail_bdF {p:Pl} {s:St} (r:RightT p s) {b g:Nat} (hb:b<p.nb) (hg:g<p.ns):0≤availZ s b g∧availZ s b g≤200:=by
 have F:=r.fm
 have h0:=(goods_no (r.goods g hg)).2 b hb
 have h1:=F.sh.num b (by rw [F.sh.n];exact hb) g hg
 have h2:=heldTo_bd (s:=s) (b:=b) (g:=g) F.holdN
 have h3:=fromTo_bd (s:=s) (b:=b) (g:=g) F.moveN
 refine ⟨h0,?_⟩
 unfold availZ
 omega
set_option maxRecDepth 100000 in
set_option maxHeartbeats 4000000 in
theorem atMost_any (p:Pl) (s:St) (g f b:Nat) (n:Int) (w:World) (hp:p.At w) (hs:s.At w) (r:RightT p s) (hg:g<p.ns) (hf:f<p.nb) (hb:b<p.nb) :
  Calls Tryz.prog 103 #[p.val,s.val,.agg #[.int .i64 g,.int .i64 f,.int .i64 b,.int .i64 n]] w fun e w'=>e = .returned (.int .i64 (fillN p s b g f))∧Below w.heap.size w w':=by
 obtain ⟨W0,hW,hWB,X0,K0⟩:∃ W,(((w.alloc (.cells #[.slice p.ab p.nb p.cb,.slice p.sa p.ns p.cs] 25)).alloc (.cells s.cells 31)).alloc (.cells #[.int .i64 g,.int .i64 f,.int .i64 b,.int .i64 n] 63))=W∧Below w.heap.size w W∧Boxes W w.heap.size (w.heap.size+1) p s∧Blk W (w.heap.size+1+1) 63 4 (fun j=>(#[.int .i64 g,.int .i64 f,.int .i64 b,.int .i64 n]:Array Value).getD j default) :=
  ⟨_,rfl,(two_below _ _ _).alloc (by simp;omega) _,(boxes_new w p s _ _).below ((Below.refl _ _).alloc (Nat.le_refl _) _),Blk.mk' (cur:=#[.int .i64 g,.int .i64 f,.int .i64 b,.int .i64 n]) (by simp) rfl⟩
 have HC:Hid (∀ wk,Below W0.heap.size W0 wk→Boxes wk w.heap.size (w.heap.size+1) p s∧p.At wk∧s.At wk∧Below w.heap.size w wk∧Blk wk (w.heap.size+1+1) 63 4 (fun j=>(#[.int .i64 g,.int .i64 f,.int .i64 b,.int .i64 n]:Array Value).getD j default)):=fun wk h=>⟨X0.below h,(hp.below hWB).below h,(hs.below hWB).below h,hWB.trans (h.mono hWB.size),K0.below h⟩
 have HW:Hid (((w.alloc (.cells #[.slice p.ab p.nb p.cb,.slice p.sa p.ns p.cs] 25)).alloc (.cells #[.slice s.on.a s.on.n s.on.c,.slice s.os.a s.os.n s.os.c,.slice s.hs.a s.hs.n s.hs.c,.slice s.ms.a s.ms.n s.ms.c,.slice s.si.a s.si.n s.si.c,.slice s.so.a s.so.n s.so.c,.slice s.sf.a s.sf.n s.sf.c] 31)).alloc (.cells #[.int .i64 g,.int .i64 f,.int .i64 b,.int .i64 n] 63)=W0):=hW
 have leb:=hp.leb
 have capb:=hp.capb
 have les:=hp.les
 have caps:=hp.caps
 unfold maxLen at capb caps
 have HR:Hid (RightT p s):=r
 have g0:(0:Int)≤(g:Int):=by omega
 have b0:(0:Int)≤(b:Int):=by omega
 have g1:(g:Int)<(p.ns:Int):=by omega
 have b1:(b:Int)<(p.nb:Int):=by omega
 clear hW X0 hp hs r
 unfold Pl.val St.val
 go_enter Tryz.func103,Tryz.ntmps103
 go_wp2_with fail
 rw [HW.out]
 clear HW
 have hB0:Below W0.heap.size W0 W0:=Below.refl _ _
 obtain ⟨⟨⟨l1,d0,d1⟩,l2,c0,c1,c2,c3,c4,c5,c6⟩,hpk,hsk,hBw,hk⟩:=HC.out W0 hB0
 obtain ⟨bb,ob,hab,hbb,z0,z1,z2,z3⟩:=hpk.bins b hb
 have m0:W0.cell? ⟨w.heap.size+1+1,0,none⟩=some (.int .i64 g):=hk.cell (j:=0) (by decide)
 have m2:W0.cell? ⟨w.heap.size+1+1,2,none⟩=some (.int .i64 b):=hk.cell (j:=2) (by decide)
 have ml:=hk.lt
 rw [hab] at d0
 have HLY:Hid (∀ wk,s.At wk→Calls Tryz.prog 89 #[.agg #[.slice s.on.a s.on.n s.on.c,.slice s.os.a s.os.n s.os.c,.slice s.hs.a s.hs.n s.hs.c,.slice s.ms.a s.ms.n s.ms.c,.slice s.si.a s.si.n s.si.c,.slice s.so.a s.so.n s.so.c,.slice s.sf.a s.sf.n s.sf.c],.int .i64 b,.int .i64 g] wk fun e w'=>e = .returned (.int .i64 (lyingZ s b g))∧Below wk.heap.size wk w'):=fun wk h=>Lying_any p s b g wk h HR.out.fm hb hg
 have HSA:Hid (s.At W0):=hsk
 have hi:=high_bdF HR.out.fm.sh.pl hb
 have ly:=lying_bdF HR.out.fm hb hg
 have HN:Hid (fillN p s b g f=min (min ((p.zb b).high - lyingZ s b g) (availZ s f g)) ((freeZ p s b).tdiv (p.zs g))):=rfl
 have av:=avail_bdF HR.out hf hg
 have fr:=free_bdF HR.out.fm hb
 have sz:=HR.out.fm.sh.pl.sizes g hg
 have rd0:=fun d os=>cell_regrown d0 d os
 have rz3:=fun d os=>cell_regrown z3 d os
 have rm0:=fun d os=>cell_regrown m0 d os
 have rm2:=fun d os=>cell_regrown m2 d os
 have rc0:=fun d os=>cell_regrown c0 d os
 have rc1:=fun d os=>cell_regrown c1 d os
 have rc2:=fun d os=>cell_regrown c2 d os
 have rc3:=fun d os=>cell_regrown c3 d os
 have rc4:=fun d os=>cell_regrown c4 d os
 have rc5:=fun d os=>cell_regrown c5 d os
 have rc6:=fun d os=>cell_regrown c6 d os
 generalize lyingZ s b g=LY at *
 generalize (p.zb b).high=HI at *
 clear hab hpk hsk hBw hk d0 d1 c0 c1 c2 c3 c4 c5 c6 z0 z1 z2 z3 m0 m2 hB0
 refine wp_region_quiet_below (by kernel_rfl) (by kernel_rfl) ?_
 repeat (go_big_quiet_step ((go_at_call 89;exact Calls.regrown_of (HLY.out _ (HSA.out.below (below_regrown _ _ _))))))
 refine wpQuiet_nil ?_
 intro w1 hw1
 have hB:=below_of_regrown hw1
 clear rd0 rz3 rm0 rm2 rc0 rc1 rc2 rc3 rc4 rc5 rc6 HLY HSA hw1 l1 l2 ml hbb
 obtain ⟨⟨⟨l1,d0,d1⟩,l2,c0,c1,c2,c3,c4,c5,c6⟩,hpk,hsk,hBw,hk⟩:=HC.out w1 hB
 have m0:w1.cell? ⟨w.heap.size+1+1,0,none⟩=some (.int .i64 g):=hk.cell (j:=0) (by decide)
 have m1:w1.cell? ⟨w.heap.size+1+1,1,none⟩=some (.int .i64 f):=hk.cell (j:=1) (by decide)
 have ml:=hk.lt
 clear hpk hsk hBw hk
 go_wp2_with fail
 refine Calls.mono (Avail_rightW p s f g w1 (HC.out w1 hB).2.1 (HC.out w1 hB).2.2.1 (stateE_of HR.out) hf hg) ?_
 rintro e w2 ⟨rfl,hB2⟩
 have hB:=hB.trans (hB2.mono hB.size)
 clear l1 d0 d1 l2 c0 c1 c2 c3 c4 c5 c6 m0 m1 ml hB2
 generalize availZ s f g=AV at *
 obtain ⟨⟨⟨l1,d0,d1⟩,l2,c0,c1,c2,c3,c4,c5,c6⟩,hpk,hsk,hBw,hk⟩:=HC.out w2 hB
 have m2:w2.cell? ⟨w.heap.size+1+1,2,none⟩=some (.int .i64 b):=hk.cell (j:=2) (by decide)
 have ml:=hk.lt
 clear hpk hsk hBw hk
 go_wp2_with fail
 refine Calls.mono (Free_rightW p s b w2 (HC.out w2 hB).2.1 (HC.out w2 hB).2.2.1 (stateE_of HR.out) hb) ?_
 rintro e w3 ⟨rfl,hB2⟩
 have hB:=hB.trans (hB2.mono hB.size)
 clear l1 d0 d1 l2 c0 c1 c2 c3 c4 c5 c6 m2 ml hB2
 generalize freeZ p s b=FR at *
 obtain ⟨⟨⟨l1,d0,d1⟩,l2,c0,c1,c2,c3,c4,c5,c6⟩,hpk,hsk,hBw,hk⟩:=HC.out w3 hB
 have m0:w3.cell? ⟨w.heap.size+1+1,0,none⟩=some (.int .i64 g):=hk.cell (j:=0) (by decide)
 have ml:=hk.lt
 obtain ⟨bs,os,has,hbs,y0⟩:=hpk.sizes g hg
 rw [has] at d1
 clear hpk hsk hk has
 generalize p.zs g=ZS at *
 by_cases q1:AV<HI - LY
 all_goals (
  go_wp2_with fail
  all_goals (
   go_ret
   refine ⟨?_,hBw⟩
   rw [HN.out]
   generalize FR.tdiv ZS=QQ at *
   refine congrArg (fun z=>Ending.returned (Value.int .i64 z)) ?_
   omega))
attribute [local go_sem] Oper.semAt_some
def Parked (P:Prop):Prop:=P
theorem park {P:Prop} (h:Parked P):P:=h
theorem unpark {P:Prop} (h:P):Parked P:=h
theorem leave_ret {F:Fence} {n:Nat} {P:Program} {fn:Func} {R:Ending→World→Prop} {a:Act} {w:World} {v:Value} (hr:(results fn a.tmps).run P w = .ok v w) (hd:a.defers=[]) (hR:R (.returned v) w):Exit.noGoto (bodyPostM F n P fn R) .ret a w:=by
 show LeavesInM F n P fn a.tmps R a.defers .returning w
 rw [hd]
 exact ⟨v,hr,hR⟩
theorem leave_marked {F:Fence} {n:Nat} {P:Program} {fn:Func} {R:Ending→World→Prop} {a:Act} {w:World} {v:Value} {D:Nat} (hK:w.heap[D]?=some (.deferred (some []))) (hr:(results fn a.tmps).run P (w.putObj D (.deferred none)) = .ok v (w.putObj D (.deferred none))) (hd:a.defers=[{ target := .collected D,args:=#[] }]) (hR:R (.returned v) (w.putObj D (.deferred none))):Exit.noGoto (bodyPostM F n P fn R) .ret a w:=by
 show LeavesInM F n P fn a.tmps R a.defers .returning w
 rw [hd]
 exact ⟨by simp,.inl ⟨_,_,rfl,run_takeDeferred hK,⟨v,hr,hR⟩⟩⟩
theorem RelK.ck {A B7 M:Nat} {W0 X Y:World} {x:St} {row:Option Nat} (h:RelK A B7 W0 x X) (hg:X.grownBy Y row) (hr:∀ r,row=some r→M≤r∧∃ o:Obj,X.heap[r]?=some o∧o.isCells=false) (hM:W0.heap.size≤M):RelK A B7 W0 x Y :=
 ⟨h.own.ck (CellsKept.of hg fun r e=>(hr r e).2),h.box.ck (CellsKept.of hg fun r e=>(hr r e).2),h.bel.grown hg h.bel.size (fun k e=>Nat.le_trans hM (hr k e).1),Nat.le_trans h.le hg.size⟩
theorem keeps_below {X Y:World} (h:Below X.heap.size X Y):KeepsOthers X Y:=⟨h.size,fun k o hk _=>(h.block k (Array.getElem?_eq_some_iff.1 hk).1).trans hk⟩
theorem keeps_b {n₀ B:Nat} {X Y:World} {v:Value} {e:TypeId} (h:Below n₀ X Y) (h1:Blk X B e 1 (fun _=>v)) (h2:Blk Y B e 1 (fun _=>v)):keepsB n₀ B X Y:=⟨h,fun u hu=>by
 have a:=h1.cell (j:=0) (by decide)
 rw [a] at hu
 cases hu
 exact h2.cell (j:=0) (by decide)⟩
def FillK (p:Pl) (A B7 BF:Nat) (W0:World) (y:St) (W:World):Prop:=(∃ x:St,SameT x y∧RelK A B7 W0 x W)∧Blk W BF 4 1 (fun _ => .bool true)
theorem FillK.ck {p:Pl} {A B7 BF M:Nat} {W0 X Y:World} {y:St} {row:Option Nat} (h:FillK p A B7 BF W0 y X) (hg:X.grownBy Y row) (hr:∀ r,row=some r→M≤r∧∃ o:Obj,X.heap[r]?=some o∧o.isCells=false) (hM:W0.heap.size≤M):FillK p A B7 BF W0 y Y:=by
 obtain ⟨⟨x,h1,h2⟩,h3⟩:=h
 exact ⟨⟨x,h1,h2.ck hg hr hM⟩,h3.ck (CellsKept.of hg fun r e=>(hr r e).2)⟩
theorem FillK.below {p:Pl} {A B7 BF:Nat} {W0 X Y:World} {y:St} (h:FillK p A B7 BF W0 y X) (hB:Below X.heap.size X Y):FillK p A B7 BF W0 y Y:=by
 obtain ⟨⟨x,h1,h2⟩,h3⟩:=h
 exact ⟨⟨x,h1,h2.below hB⟩,h3.below hB⟩
def FillX (p:Pl) (A B7:Nat) (W0:World) (c:Code) (y:St) (W:World):Prop:=c = .exit 0∧8≤y.ms.n∧∃ x:St,SameT x y∧RelK A B7 W0 x W
theorem FillX.ck {p:Pl} {A B7 M:Nat} {W0 X Y:World} {c:Code} {y:St} {row:Option Nat} (h:FillX p A B7 W0 c y X) (hg:X.grownBy Y row) (hr:∀ r,row=some r→M≤r∧∃ o:Obj,X.heap[r]?=some o∧o.isCells=false) (hM:W0.heap.size≤M):FillX p A B7 W0 c y Y:=by
 obtain ⟨h0,h8,x,h1,h2⟩:=h
 exact ⟨h0,h8,x,h1,h2.ck hg hr hM⟩
theorem set7_heap {w:World} {b q:Nat} (h:q≠b) (v0 v1 v2 v3 v4 v5 v6:Value):(set7 w b v0 v1 v2 v3 v4 v5 v6).heap[q]?=w.heap[q]?:=by
 unfold set7
 rw [Below.heap_setCell _ ⟨b,6,none⟩ _ q h,Below.heap_setCell _ ⟨b,5,none⟩ _ q h,Below.heap_setCell _ ⟨b,4,none⟩ _ q h,Below.heap_setCell _ ⟨b,3,none⟩ _ q h,Below.heap_setCell _ ⟨b,2,none⟩ _ q h,Below.heap_setCell _ ⟨b,1,none⟩ _ q h,Below.heap_setCell _ ⟨b,0,none⟩ _ q h]
set_option maxRecDepth 100000 in
set_option maxHeartbeats 8000000 in
theorem Fill_any (p:Pl) (s:St) (w:World) (hp:p.At w) (hs:s.At w) :
  Calls Tryz.prog 46 #[p.val,s.val] w fun e w'=>∃ x:St,e = .returned (.tuple #[x.val,.int .i64 (stateE p s)])∧x.At w'∧ActOK (stateE p s) (fillT p s) x∧(stateE p s=0→OwnS w.heap.size w' x)∧Below w.heap.size w w':=by
 obtain ⟨W0,hW,hWB,X0,Z0⟩:∃ W,(((w.alloc (.cells #[.slice p.ab p.nb p.cb,.slice p.sa p.ns p.cs] 25)).alloc (.cells s.cells 31)).alloc (.cells #[.slice .none 0 0,.slice .none 0 0,.slice .none 0 0,.slice .none 0 0,.slice .none 0 0,.slice .none 0 0,.slice .none 0 0] 31))=W∧Below w.heap.size w W∧Boxes W w.heap.size (w.heap.size+1) p s∧Blk W (w.heap.size+2) 31 7 (fun _ => .slice .none 0 0) :=
  ⟨_,rfl,(two_below _ _ _).alloc (by simp;omega) _,(boxes_new w p s _ _).below ((Below.refl _ _).alloc (Nat.le_refl _) _),(Blk.mk' (cur:=#[.slice .none 0 0,.slice .none 0 0,.slice .none 0 0,.slice .none 0 0,.slice .none 0 0,.slice .none 0 0,.slice .none 0 0]) (by simp) rfl).congr (fun j hj=>by match j,hj with | 0,_=>rfl | 1,_=>rfl | 2,_=>rfl | 3,_=>rfl | 4,_=>rfl | 5,_=>rfl | 6,_=>rfl)⟩
 have HC:Hid (∀ wk,Below W0.heap.size W0 wk→Boxes wk w.heap.size (w.heap.size+1) p s∧p.At wk∧s.At wk∧Below w.heap.size w wk∧Blk wk (w.heap.size+2) 31 7 (fun _ => .slice .none 0 0)):=fun wk h=>⟨X0.below h,(hp.below hWB).below h,(hs.below hWB).below h,hWB.trans (h.mono hWB.size),Z0.below h⟩
 have HW:Hid (((w.alloc (.cells #[.slice p.ab p.nb p.cb,.slice p.sa p.ns p.cs] 25)).alloc (.cells #[.slice s.on.a s.on.n s.on.c,.slice s.os.a s.os.n s.os.c,.slice s.hs.a s.hs.n s.hs.c,.slice s.ms.a s.ms.n s.ms.c,.slice s.si.a s.si.n s.si.c,.slice s.so.a s.so.n s.so.c,.slice s.sf.a s.sf.n s.sf.c] 31)).alloc (.cells #[.slice .none 0 0,.slice .none 0 0,.slice .none 0 0,.slice .none 0 0,.slice .none 0 0,.slice .none 0 0,.slice .none 0 0] 31)=W0):=hW
 have leb:=hp.leb
 have capb0:=hp.capb
 have les:=hp.les
 have caps0:=hp.caps
 have capb:=capb0
 have caps:=caps0
 have zlt0:=Z0.lt
 unfold maxLen at capb caps
 clear hW X0 Z0 hp hs
 unfold Pl.val St.val
 refine (callsIn_wide (n:=9)).1 ?_
 refine callsIn_of_wp_marks Tryz.func46 rfl trivial ?_ rfl
 simp only [Tryz.ntmps46,List.size_toArray,List.length_cons,List.length_nil,Nat.reduceAdd,Nat.reduceSub,Array.replicate_succ,Array.replicate_zero,List.push_toArray,List.append_toArray,List.nil_append,List.cons_append]
 gi_wp2_with fail
 rw [HW.out]
 refine wpIn_wide.2 (wp_scope_straight ((wpIn_wide (n:=9)).1 ?_))
 obtain ⟨⟨⟨l1,d0,d1⟩,l2,c0,c1,c2,c3,c4,c5,c6⟩,-,-,-,-⟩:=HC.out W0 (Below.refl _ _)
 gi_wp2_with (refine ⟨trivial,?_⟩;(first | gi_at_call 16 | gi_at_call 90 | gi_at_call 102 | gi_at_call 89 | gi_at_call 103);refine park ?_)
 clear l1 d0 d1 l2 c0 c1 c2 c3 c4 c5 c6
 refine unpark ?_
 obtain ⟨X,hpk,hsk,hBw,hz⟩:=HC.out W0 (Below.refl _ _)
 refine (callsIn_wide.2 (stateCheck_any p s W0 hpk hsk)).mono ?_
 rintro e w1 ⟨rfl,hB⟩
 clear X hpk hsk hBw hz HW
 obtain ⟨⟨⟨l1,d0,d1⟩,l2,c0,c1,c2,c3,c4,c5,c6⟩,hpk,hsk,hBw,hz⟩:=HC.out w1 hB
 by_cases h0:stateE p s=0
 ·have HR:Hid (RightT p s):=rightT h0
  have H0:Hid (stateE p s=0):=h0
  have HCS:Hid (Calls Tryz.prog 90 #[s.val] w1 fun e w'=>∃ s':St,e = .returned s'.val∧SameT s' s∧OwnS w1.heap.size w' s'∧Below w1.heap.size w1 w'):=copyState_any p s w1 hsk HR.out.fm
  rw [h0]
  clear h0 hpk hsk hBw hz
  gi_wp2_with (refine ⟨trivial,?_⟩;(first | gi_at_call 16 | gi_at_call 90 | gi_at_call 102 | gi_at_call 89 | gi_at_call 103);refine park ?_)
  refine unpark ?_
  refine (callsIn_wide.2 HCS.out).mono ?_
  rintro e w4 ⟨x0,rfl,hsame,hown,hB4⟩
  clear HCS l1 d0 d1 l2 c0 c1 c2 c3 c4 c5 c6
  obtain ⟨W5,hW5,hWB5,K5⟩:∃ W,w4.alloc (.cells #[.slice x0.on.a x0.on.n x0.on.c,.slice x0.os.a x0.os.n x0.os.c,.slice x0.hs.a x0.hs.n x0.hs.c,.slice x0.ms.a x0.ms.n x0.ms.c,.slice x0.si.a x0.si.n x0.si.c,.slice x0.so.a x0.so.n x0.so.c,.slice x0.sf.a x0.sf.n x0.sf.c] 31)=W∧Below w4.heap.size w4 W∧Blk W w4.heap.size 31 7 (fun j=>x0.cells.getD j default):=⟨_,rfl,(Below.refl _ _).alloc (Nat.le_refl _) _,Blk.mk' rfl rfl⟩
  have HW5:Hid (w4.alloc (.cells #[.slice x0.on.a x0.on.n x0.on.c,.slice x0.os.a x0.os.n x0.os.c,.slice x0.hs.a x0.hs.n x0.hs.c,.slice x0.ms.a x0.ms.n x0.ms.c,.slice x0.si.a x0.si.n x0.si.c,.slice x0.so.a x0.so.n x0.so.c,.slice x0.sf.a x0.sf.n x0.sf.c] 31)=W5):=hW5
  have hB35:=hB4.trans (hWB5.mono hB4.size)
  have A2:W0.heap.size≤w1.heap.size:=hB.size
  have A3:w1.heap.size≤w4.heap.size:=hB4.size
  have HK5:Hid (RelK w1.heap.size w4.heap.size W0 x0 W5):=⟨OwnS.below hown hWB5,K5,hB.trans (hB35.mono hB.size),by have:=hB35.size;omega⟩
  have HS5:Hid (SameT x0 s):=hsame
  obtain ⟨⟨⟨l1,d0,d1⟩,l2,c0,c1,c2,c3,c4,c5,c6⟩,hpk,hsk,hBw,hz⟩:=HC.out W5 HK5.out.bel
  clear hW5 hown K5 hB4 hWB5 hB35 hsame hB hpk hsk hBw hz l2 c0 c1 c2 c3 c4 c5 c6
  rw [← HW5.out] at l1 d0 d1
  simp only [St.val]
  gi_wp2_with fail
  refine wpIn_label ?_
  rw [HW5.out]
  rw [HW5.out] at l1 d0 d1
  gi_wp2_with (refine ⟨trivial,?_⟩;(first | gi_at_call 16 | gi_at_call 90 | gi_at_call 102 | gi_at_call 89 | gi_at_call 103);refine park ?_)
  refine unpark ?_
  clear l1 d0 d1
  refine (binsOf_in Fence.wide _ trivial rfl p true W5).mono ?_
  rintro e w' ⟨rfl,rfl⟩
  gi_wp2_with fail
  generalize hB7:w4.heap.size=B7 at *
  have b75:B7<W5.heap.size:=HK5.out.box.lt
  obtain ⟨W6,hW6,s6,hB6,kF,cP⟩:∃ W,(W5.alloc (.cells #[.slice p.ab p.nb p.cb,.slice p.sa p.ns p.cs] 25)).alloc (.cells #[.bool true] 4)=W∧W.heap.size=W5.heap.size+2∧Below W5.heap.size W5 W∧Blk W (W5.heap.size+1) 4 1 (fun _ => .bool true)∧W.cell? ⟨W5.heap.size,0,none⟩=some (.slice p.ab p.nb p.cb) :=
   ⟨_,rfl,by simp,((Below.refl _ _).alloc (Nat.le_refl _) _).alloc (by simp) _,(Blk.mk' (cur:=#[.bool true]) (by simp) rfl).congr (fun j hj=>by match j,hj with | 0,_=>rfl),((Blk.new W5 #[.slice p.ab p.nb p.cb,.slice p.sa p.ns p.cs] 25).alloc (.cells #[.bool true] 4)).cell (j:=0) (by simp)⟩
  rw [hW6]
  have HK6:Hid (RelK w1.heap.size B7 W0 x0 W6):=HK5.out.below hB6
  have hW06:W0.heap.size≤W6.heap.size:=HK6.out.bel.size
  have hW05:W0.heap.size≤W5.heap.size:=HK5.out.bel.size
  have HL0:Hid (∀ W',Below W0.heap.size W6 W'→BinsAt W' p.ab p.nb p.zb):=fun W' h=>(HC.out W' (HK6.out.bel.trans h)).2.1.bins
  have HFI:Hid (FillK p w1.heap.size B7 (W5.heap.size+1) W0 (fillB p [] s) W6):=⟨⟨x0,HS5.out,HK6.out⟩,kF⟩
  clear hW6 hB6 hB7
  have cF:=kF.cell (j:=0) (by decide)
  refine wpIn_rangeFunc_ownH rfl (by decide) (gf:=149) (lb:=#[.pointer (some ⟨W5.heap.size,0,none⟩),.pointer (some ⟨W5.heap.size+1,0,none⟩)]) rfl trivial (enters_of Tryz.func149 (by kernel_rfl) rfl)
   (binsX_stops Fence.wide _ trivial rfl (by decide) W5.heap.size (W5.heap.size+1) W0.heap.size p true W6 (by omega) (by omega) hW06 cP cF leb capb0 HL0.out) keepsB_t (keepsB_b hW06 (by omega)) (Below.refl _ _) (fun _=>rfl)
   (fun pre W=>FillK p w1.heap.size B7 (W5.heap.size+1) W0 (fillB p pre s) W)
   (fun c pre W=>FillX p w1.heap.size B7 W0 c (fillB p pre s) W)
   (fun pre X Y row hs hg hr=>hs.ck hg hr hW06)
   (fun c pre X Y row hs hg hr=>hs.ck hg hr hW06)
   HFI.out
   (fun b a' W=>∃ Bx,Blk W Bx 3 1 (fun _ => .int .i64 (b.1:Int))∧a'={ tmps:=#[.agg #[.slice p.ab p.nb p.cb,.slice p.sa p.ns p.cs],.agg #[.slice s.on.a s.on.n s.on.c,.slice s.os.a s.os.n s.os.c,.slice s.hs.a s.hs.n s.hs.c,.slice s.ms.a s.ms.n s.ms.c,.slice s.si.a s.si.n s.si.c,.slice s.so.a s.so.n s.so.c,.slice s.sf.a s.sf.n s.sf.c],.pointer (some ⟨w.heap.size,0,none⟩),.pointer (some ⟨w.heap.size+1,0,none⟩),.pointer (some ⟨w.heap.size+1+1,0,none⟩),.int .i64 0,.int .i64 0,.pointer (some ⟨B7,0,none⟩),.pointer (some ⟨Bx,0,none⟩),undef,undef,undef,.agg #[.slice p.ab p.nb p.cb,.slice p.sa p.ns p.cs],.agg #[.slice s.on.a s.on.n s.on.c,.slice s.os.a s.os.n s.os.c,.slice s.hs.a s.hs.n s.hs.c,.slice s.ms.a s.ms.n s.ms.c,.slice s.si.a s.si.n s.si.c,.slice s.so.a s.so.n s.so.c,.slice s.sf.a s.sf.n s.sf.c],.int .i64 0,.int .i64 0,.bool false,undef,undef,.agg #[.slice s.on.a s.on.n s.on.c,.slice s.os.a s.os.n s.os.c,.slice s.hs.a s.hs.n s.hs.c,.slice s.ms.a s.ms.n s.ms.c,.slice s.si.a s.si.n s.si.c,.slice s.so.a s.so.n s.so.c,.slice s.sf.a s.sf.n s.sf.c],.agg #[.slice x0.on.a x0.on.n x0.on.c,.slice x0.os.a x0.os.n x0.os.c,.slice x0.hs.a x0.hs.n x0.hs.c,.slice x0.ms.a x0.ms.n x0.ms.c,.slice x0.si.a x0.si.n x0.si.c,.slice x0.so.a x0.so.n x0.so.c,.slice x0.sf.a x0.sf.n x0.sf.c],.agg #[.slice p.ab p.nb p.cb,.slice p.sa p.ns p.cs],.func (.func 149) #[] #[.pointer (some ⟨W5.heap.size,0,none⟩),.pointer (some ⟨W5.heap.size+1,0,none⟩)],.int .i64 (b.1:Int),undef,undef,undef,undef,undef,undef,undef,undef,undef,undef,undef,undef,undef,undef,undef,undef,undef,undef,undef,undef,undef,undef,undef,undef,undef,undef,undef,undef,undef,undef,undef,undef,undef,undef,undef,undef,undef,undef,undef,undef,undef,undef,undef,undef],defers:=[] })
   (fun b a' _ X Y row hs hg hr=>by obtain ⟨Bx,h1,h2⟩:=hs;exact ⟨Bx,h1.ck (CellsKept.of hg fun r e=>(hr r e).2),h2⟩)
   ?assign ?body ?done ?stop
  case assign =>
   rintro l pre b W K hi hK
   gi_wp2
   exact hK _ _ ((KeepsOthers.alloc _ _).from _) (keeps_b ((Below.refl _ W).alloc (by have:=hi.1.choose_spec.2.bel.size;omega) _) hi.2 (hi.2.alloc _)) (hi.below ((Below.refl _ _).alloc (Nat.le_refl _) _)) ⟨W.heap.size,(Blk.mk' (cur:=#[.int .i64 (b.1:Int)]) rfl rfl).congr (fun j hj=>by match j,hj with | 0,_=>rfl),rfl⟩
  case body =>
   rintro l pre b a' W hl ⟨r,hr⟩ hi ⟨Bx,hbx,rfl⟩ hlt
   obtain ⟨b,hbn,hbf⟩:=b
   dsimp only at hbx ⊢
   obtain ⟨Yb,hYb⟩:∃ y,fillB p pre s=y:=⟨_,rfl⟩
   have HYB:Hid (fillB p (pre++[⟨b,hbn,hbf⟩]) s=fillG p b p.ns Yb):=by show _=_;rw [fillB_snoc,hYb]
   have HFY:Hid (FillEnd p s Yb):=by show FillEnd p s Yb;rw [← hYb];exact (FillEnd.refl HR.out).B _
   rw [hYb] at hi
   have HRR:Hid (W6.heap.size≤l∧W.heap[l]?=some (.loop r)):=⟨hl,hr⟩
   have HJ:Hid (FillK p w1.heap.size B7 (W5.heap.size+1) W0 (fillG p b 0 Yb) W∧Blk W Bx 3 1 (fun _ => .int .i64 (b:Int))∧Below W0.heap.size W W∧KeepsFrom W6.heap.size W W):=⟨hi,hbx,Below.refl _ _,KeepsFrom.refl _ _⟩
   have HIW:Hid (FillK p w1.heap.size B7 (W5.heap.size+1) W0 Yb W):=hi
   obtain ⟨⟨y0,hs0,hk0⟩,hbf0⟩:=hi
   obtain ⟨⟨⟨l1,d0,d1⟩,l2,c0,c1,c2,c3,c4,c5,c6⟩,-,-,-,-⟩:=HC.out W hk0.bel
   have q0:(0:Int)≤(b:Int):=by omega
   have q1:(b:Int)<(p.nb:Int):=by omega
   clear hl hr hYb hs0 hk0 hbf0 hbx l2 c0 c1 c2 c3 c4 c5 c6
   gi_wp2_with fail
   clear l1 d0 d1
   gi_loopw [27] (fun gv wk=>∃ g:Nat,g≤p.ns∧gv = .int .i64 g∧Hid (FillK p w1.heap.size B7 (W5.heap.size+1) W0 (fillG p b g Yb) wk∧Blk wk Bx 3 1 (fun _ => .int .i64 (b:Int))∧Below W0.heap.size W wk∧KeepsFrom W6.heap.size W wk)) (fun gv _=>p.ns - (intOf gv).toNat)
   case atStart=>exact ⟨0,Nat.zero_le _,rfl,HJ⟩
   case round =>
    clear HJ
    obtain ⟨g,hg,rfl,HJ⟩:=hrel
    by_cases hgl:g<p.ns
    ·have r0:(0:Int)≤(g:Int):=by omega
     have r1:(g:Int)<(p.ns:Int):=by omega
     obtain ⟨Yg,hYg⟩:∃ z,fillG p b g Yb=z:=⟨_,rfl⟩
     have HYG:Hid (fillG p b g Yb=Yg):=hYg
     have HFG:Hid (FillEnd p s Yg):=by show FillEnd p s Yg;rw [← hYg];exact HFY.out.G hbn hbf hg
     rw [hYg] at HJ
     clear hYg
     obtain ⟨⟨⟨y,hsy,hky⟩,-⟩,-,-,-⟩:=HJ.out
     have HSY:Hid (SameT y Yg):=hsy
     have HRY:Hid (RightT p y):=hsy.right HFG.out.r
     have HLY:Hid (lyingZ y b g=lyingZ Yg b g):=hsy.lying HFG.out.r.fm hbn hgl
     obtain ⟨W8,hW8,hWB8,K8⟩:∃ W',wr.alloc (.cells #[.int .i64 (g:Int)] 3)=W'∧Below wr.heap.size wr W'∧Blk W' wr.heap.size 3 1 (fun _ => .int .i64 (g:Int)):=⟨_,rfl,(Below.refl _ _).alloc (Nat.le_refl _) _,(Blk.mk' (cur:=#[.int .i64 (g:Int)]) rfl rfl).congr (fun j hj=>by match j,hj with | 0,_=>rfl)⟩
     have HW8:Hid (wr.alloc (.cells #[.int .i64 (g:Int)] 3)=W8):=hW8
     have HKY:Hid (RelK w1.heap.size B7 W0 y W8):=hky.below hWB8
     have HGB:Hid (Blk W8 wr.heap.size 3 1 (fun _ => .int .i64 (g:Int))):=K8
     have HBB:Hid (Blk W8 Bx 3 1 (fun _ => .int .i64 (b:Int))):=HJ.out.2.1.below hWB8
     have HFB:Hid (Blk W8 (W5.heap.size+1) 4 1 (fun _ => .bool true)):=HJ.out.1.2.below hWB8
     have hwr0:W0.heap.size≤wr.heap.size:=hky.bel.size
     have HRW:Hid (Below W0.heap.size W W8∧KeepsFrom W6.heap.size W W8):=⟨HJ.out.2.2.1.trans (hWB8.mono hwr0),HJ.out.2.2.2.trans ((keeps_below hWB8).from _)⟩
     clear hW8 hWB8 K8 hsy hky HJ
     gi_wp2_with fail
     rw [HW8.out]
     clear HW8
     generalize wr.heap.size=Bg at *
     obtain ⟨⟨⟨l1,d0,d1⟩,l2,c0,c1,c2,c3,c4,c5,c6⟩,hpk,-,-,-⟩:=HC.out W8 HKY.out.bel
     obtain ⟨bb,ob,hab,hbb,z0,z1,z2,z3⟩:=hpk.bins b hbn
     have HAB:Hid (p.ab=some ⟨bb,ob,none⟩):=hab
     rw [hab] at d0
     obtain ⟨m1,p0,p1,p2,p3,p4,p5,p6⟩:=Boxed.of HKY.out.box
     have hxc:=HBB.out.cell (j:=0) (by decide)
     have hxl:=HBB.out.lt
     have hgc:=HGB.out.cell (j:=0) (by decide)
     have hgl2:=HGB.out.lt
     have HYA:Hid (y.At W8):=HKY.out.own.at
     have HCL:Hid (∀ wk,y.At wk→Calls Tryz.prog 89 #[.agg #[.slice y.on.a y.on.n y.on.c,.slice y.os.a y.os.n y.os.c,.slice y.hs.a y.hs.n y.hs.c,.slice y.ms.a y.ms.n y.ms.c,.slice y.si.a y.si.n y.si.c,.slice y.so.a y.so.n y.so.c,.slice y.sf.a y.sf.n y.sf.c],.int .i64 b,.int .i64 g] wk fun e w'=>e = .returned (.int .i64 (lyingZ Yg b g))∧Below wk.heap.size wk w'):=fun wk h=>by
      have k:=Lying_any p y b g wk h HRY.out.fm hbn hgl
      rw [HLY.out] at k
      exact k
     have ly:=lying_bdF HFG.out.r.fm hbn hgl
     have hi1:=high_bdF HR.out.fm.sh.pl hbn
     have rd0:=fun d os=>cell_regrown d0 d os
     have rz2:=fun d os=>cell_regrown z2 d os
     have rp0:=fun d os=>cell_regrown p0 d os
     have rp1:=fun d os=>cell_regrown p1 d os
     have rp2:=fun d os=>cell_regrown p2 d os
     have rp3:=fun d os=>cell_regrown p3 d os
     have rp4:=fun d os=>cell_regrown p4 d os
     have rp5:=fun d os=>cell_regrown p5 d os
     have rp6:=fun d os=>cell_regrown p6 d os
     have rhxc:=fun d os=>cell_regrown hxc d os
     have rhgc:=fun d os=>cell_regrown hgc d os
     have HNL:Hid ((p.zb b).low≤lyingZ Yg b g→fillG p b (g+1) Yb=Yg):=fun h=>by rw [fillG_low (by rw [HYG.out];exact h),HYG.out]
     have HNG:Hid (¬ (p.zb b).low≤lyingZ Yg b g→fillG p b (g+1) Yb=fillF p b g (frX p false p.nb) Yg):=fun h=>by rw [fillG_go (by rw [HYG.out];exact h),HYG.out]
     generalize lyingZ Yg b g=LY at *
     generalize (p.zb b).low=LW at *
     clear hab hpk l2 c0 c1 c2 c3 c4 c5 c6 d0 d1 z0 z1 z2 z3 p0 p1 p2 p3 p4 p5 p6 hxc hgc
     by_cases hlw:LW≤LY
     ·refine wpIn_region_quiet_belowR (by kernel_rfl) (by kernel_rfl) (by kernel_rfl) ?_
      repeat (gi_big_quiet_step (fail))
      refine wpQuietIn_step (fun _ _ _ _=>trivial) (fun K hK => ?_)
      go_simp
      apply Exists.intro
      refine ⟨fun _ => ?_,hK _ ?_⟩
      ·(gi_at_call 89;exact CallsIn.regrown_of (CallsIn.inRound l (callsIn_wide.2 (HCL.out _ (HYA.out.below (below_regrown _ _ _))))))
      clear hK K
      repeat (gi_big_quiet_step (fail))
      refine wpQuietIn_nil ?_
      intro w9 hw9
      have hB9:=below_of_regrown hw9
      have HKY:Hid (RelK w1.heap.size B7 W0 y w9):=HKY.out.below hB9
      have HGB:Hid (Blk w9 Bg 3 1 (fun _ => .int .i64 (g:Int))):=HGB.out.below hB9
      have HBB:Hid (Blk w9 Bx 3 1 (fun _ => .int .i64 (b:Int))):=HBB.out.below hB9
      have HFB:Hid (Blk w9 (W5.heap.size+1) 4 1 (fun _ => .bool true)):=HFB.out.below hB9
      have HRW:Hid (Below W0.heap.size W w9∧KeepsFrom W6.heap.size W w9):=⟨HRW.out.1.trans (hB9.mono (by have:=HRW.out.1.size;have:=HIW.out.1.choose_spec.2.bel.size;omega)),HRW.out.2.trans ((keeps_below hB9).from _)⟩
      clear hw9 hB9 HYA HCL rd0 rz2 rp0 rp1 rp2 rp3 rp4 rp5 rp6 rhxc rhgc m1 hxl hgl2 hbb l1
      have HJ:Hid (FillK p w1.heap.size B7 (W5.heap.size+1) W0 (fillG p b (g+1) Yb) w9∧Blk w9 Bx 3 1 (fun _ => .int .i64 (b:Int))∧Below W0.heap.size W w9∧KeepsFrom W6.heap.size W w9):=by
       show _∧_
       rw [HNL.out hlw]
       exact ⟨⟨⟨y,HSY.out,HKY.out⟩,HFB.out⟩,HBB.out,HRW.out⟩
      gi_wp2_with fail
      go_roundw
      case rel=>exact ⟨g+1,by omega,by go_num,HJ⟩
      case measure=>simp [intOf];omega
     ·refine wpIn_region_quiet_belowR (by kernel_rfl) (by kernel_rfl) (by kernel_rfl) ?_
      repeat (gi_big_quiet_step (fail))
      refine wpQuietIn_step (fun _ _ _ _=>trivial) (fun K hK => ?_)
      go_simp
      apply Exists.intro
      refine ⟨fun _ => ?_,hK _ ?_⟩
      ·(gi_at_call 89;exact CallsIn.regrown_of (CallsIn.inRound l (callsIn_wide.2 (HCL.out _ (HYA.out.below (below_regrown _ _ _))))))
      clear hK K
      repeat (gi_big_quiet_step (fail))
      refine wpQuietIn_nil ?_
      intro w9 hw9
      have hB9:=below_of_regrown hw9
      have HKY:Hid (RelK w1.heap.size B7 W0 y w9):=HKY.out.below hB9
      have HGB:Hid (Blk w9 Bg 3 1 (fun _ => .int .i64 (g:Int))):=HGB.out.below hB9
      have HBB:Hid (Blk w9 Bx 3 1 (fun _ => .int .i64 (b:Int))):=HBB.out.below hB9
      have HFB:Hid (Blk w9 (W5.heap.size+1) 4 1 (fun _ => .bool true)):=HFB.out.below hB9
      have HRW:Hid (Below W0.heap.size W w9∧KeepsFrom W6.heap.size W w9):=⟨HRW.out.1.trans (hB9.mono (by have:=HRW.out.1.size;have:=HIW.out.1.choose_spec.2.bel.size;omega)),HRW.out.2.trans ((keeps_below hB9).from _)⟩
      clear hw9 hB9 HYA HCL rd0 rz2 rp0 rp1 rp2 rp3 rp4 rp5 rp6 rhxc rhgc m1 hxl hgl2 hbb l1
      have HGO:Hid (fillG p b (g+1) Yb=fillF p b g (frX p false p.nb) Yg):=HNG.out hlw
      obtain ⟨⟨⟨l1,d0,d1⟩,-,-,-,-,-,-,-,-⟩,-,-,-,-⟩:=HC.out w9 HKY.out.bel
      clear HNL HNG hlw
      gi_wp2_with (refine ⟨trivial,?_⟩;(first | gi_at_call 16 | gi_at_call 90 | gi_at_call 102 | gi_at_call 89 | gi_at_call 103);refine park ?_)
      refine unpark ?_
      clear l1 d0 d1
      refine (CallsIn.inRound l (binsOf_in Fence.wide _ trivial rfl p false w9)).mono ?_
      rintro e w' ⟨rfl,rfl⟩
      gi_wp2_with fail
      obtain ⟨W10,hW10,s10,hB10,kF2,cP2⟩:∃ W',(w9.alloc (.cells #[.slice p.ab p.nb p.cb,.slice p.sa p.ns p.cs] 25)).alloc (.cells #[.bool false] 4)=W'∧W'.heap.size=w9.heap.size+2∧Below w9.heap.size w9 W'∧Blk W' (w9.heap.size+1) 4 1 (fun _ => .bool false)∧W'.cell? ⟨w9.heap.size,0,none⟩=some (.slice p.ab p.nb p.cb) :=
       ⟨_,rfl,by simp,((Below.refl _ _).alloc (Nat.le_refl _) _).alloc (by simp) _,(Blk.mk' (cur:=#[.bool false]) (by simp) rfl).congr (fun j hj=>by match j,hj with | 0,_=>rfl),((Blk.new w9 #[.slice p.ab p.nb p.cb,.slice p.sa p.ns p.cs] 25).alloc (.cells #[.bool false] 4)).cell (j:=0) (by simp)⟩
      rw [hW10]
      have h09:W0.heap.size≤w9.heap.size:=HKY.out.bel.size
      have h0W:W0.heap.size≤W.heap.size:=HIW.out.1.choose_spec.2.bel.size
      have hW9:W.heap.size≤w9.heap.size:=HRW.out.1.size
      have HRX:Hid (Below W0.heap.size W W10∧KeepsFrom W6.heap.size W W10):=⟨HRW.out.1.trans (hB10.mono h09),HRW.out.2.trans ((keeps_below hB10).from _)⟩
      have HI2:Hid ((FillK p w1.heap.size B7 (W5.heap.size+1) W0 (fillF p b g [] Yg) W10∧Blk W10 Bx 3 1 (fun _ => .int .i64 (b:Int))∧Blk W10 Bg 3 1 (fun _ => .int .i64 (g:Int)))∧Blk W10 (w9.heap.size+1) 4 1 (fun _ => .bool false)∧(Below W0.heap.size W W10∧KeepsFrom W6.heap.size W W10)):=⟨⟨⟨⟨y,HSY.out,HKY.out.below hB10⟩,HFB.out.below hB10⟩,HBB.out.below hB10,HGB.out.below hB10⟩,kF2,HRX.out⟩
      have HL2:Hid (∀ W',Below W0.heap.size W10 W'→BinsAt W' p.ab p.nb p.zb):=fun W' h=>(HC.out W' ((HKY.out.below hB10).bel.trans h)).2.1.bins
      have h010:W0.heap.size≤W10.heap.size:=by omega
      have cF2:=kF2.cell (j:=0) (by decide)
      have hr':W10.heap[l]?=some (.loop r):=HRX.out.2.same l (.loop r) HRR.out.1 HRR.out.2 rfl
      clear hW10 HKY HGB HBB HFB HRW
      refine wpIn_rangeFunc_ownN (l₀:=l) (r₀:=r) rfl hr' (by decide) (gf:=149) (lb:=#[.pointer (some ⟨w9.heap.size,0,none⟩),.pointer (some ⟨w9.heap.size+1,0,none⟩)]) rfl trivial (enters_of Tryz.func149 (by kernel_rfl) rfl)
       ((binsX_stops Fence.wide _ trivial rfl (by decide) w9.heap.size (w9.heap.size+1) W0.heap.size p false W10 (by omega) (by omega) h010 cP2 cF2 leb capb0 HL2.out).inRound l) keepsB_t (keepsB_b h010 (by omega)) (Below.refl _ _) (fun _=>rfl)
       (fun pre' W'=>(FillK p w1.heap.size B7 (W5.heap.size+1) W0 (fillF p b g pre' Yg) W'∧Blk W' Bx 3 1 (fun _ => .int .i64 (b:Int))∧Blk W' Bg 3 1 (fun _ => .int .i64 (g:Int)))∧Blk W' (w9.heap.size+1) 4 1 (fun _ => .bool false)∧(Below W0.heap.size W W'∧KeepsFrom W6.heap.size W W'))
       (fun c pre' W'=>FillX p w1.heap.size B7 W0 c (fillF p b g pre' Yg) W'∧(Below W0.heap.size W W'∧KeepsFrom W6.heap.size W W'))
       (fun pre' X Y row hs hg hr=>⟨⟨hs.1.1.ck hg hr h010,hs.1.2.1.ck (CellsKept.of hg fun r e=>(hr r e).2),hs.1.2.2.ck (CellsKept.of hg fun r e=>(hr r e).2)⟩,hs.2.1.ck (CellsKept.of hg fun r e=>(hr r e).2),hs.2.2.1.grown hg (Nat.le_trans h0W hs.2.2.1.size) (fun k e=>Nat.le_trans h010 (hr k e).1),ownFrom_keepsFrom (B:=W6.heap.size) (w₀:=W) (B':=W10.heap.size) (by omega) () X Y row hs.2.2.2 hg hr⟩)
       (fun c pre' X Y row hs hg hr=>⟨hs.1.ck hg hr h010,hs.2.1.grown hg (Nat.le_trans h0W hs.2.1.size) (fun k e=>Nat.le_trans h010 (hr k e).1),ownFrom_keepsFrom (B:=W6.heap.size) (w₀:=W) (B':=W10.heap.size) (by omega) () X Y row hs.2.2 hg hr⟩)
       HI2.out
       (fun f a'' _=>a''={ tmps:=#[.agg #[.slice p.ab p.nb p.cb,.slice p.sa p.ns p.cs],.agg #[.slice s.on.a s.on.n s.on.c,.slice s.os.a s.os.n s.os.c,.slice s.hs.a s.hs.n s.hs.c,.slice s.ms.a s.ms.n s.ms.c,.slice s.si.a s.si.n s.si.c,.slice s.so.a s.so.n s.so.c,.slice s.sf.a s.sf.n s.sf.c],.pointer (some ⟨w.heap.size,0,none⟩),.pointer (some ⟨w.heap.size+1,0,none⟩),.pointer (some ⟨w.heap.size+1+1,0,none⟩),.int .i64 0,.int .i64 0,.pointer (some ⟨B7,0,none⟩),.pointer (some ⟨Bx,0,none⟩),.pointer (some ⟨Bg,0,none⟩),.int .i64 (f.1:Int),u11,.agg #[.slice p.ab p.nb p.cb,.slice p.sa p.ns p.cs],.agg #[.slice s.on.a s.on.n s.on.c,.slice s.os.a s.os.n s.os.c,.slice s.hs.a s.hs.n s.hs.c,.slice s.ms.a s.ms.n s.ms.c,.slice s.si.a s.si.n s.si.c,.slice s.so.a s.so.n s.so.c,.slice s.sf.a s.sf.n s.sf.c],.int .i64 0,.int .i64 0,.bool false,undef,undef,.agg #[.slice s.on.a s.on.n s.on.c,.slice s.os.a s.os.n s.os.c,.slice s.hs.a s.hs.n s.hs.c,.slice s.ms.a s.ms.n s.ms.c,.slice s.si.a s.si.n s.si.c,.slice s.so.a s.so.n s.so.c,.slice s.sf.a s.sf.n s.sf.c],.agg #[.slice x0.on.a x0.on.n x0.on.c,.slice x0.os.a x0.os.n x0.os.c,.slice x0.hs.a x0.hs.n x0.hs.c,.slice x0.ms.a x0.ms.n x0.ms.c,.slice x0.si.a x0.si.n x0.si.c,.slice x0.so.a x0.so.n x0.so.c,.slice x0.sf.a x0.sf.n x0.sf.c],.agg #[.slice p.ab p.nb p.cb,.slice p.sa p.ns p.cs],.func (.func 149) #[] #[.pointer (some ⟨W5.heap.size,0,none⟩),.pointer (some ⟨W5.heap.size+1,0,none⟩)],.int .i64 (b:Int),.pointer (some ⟨w.heap.size,1,none⟩),.slice p.sa p.ns p.cs,.int .i64 (p.ns:Int),.int .i64 (g:Int),.bool true,.int .i64 (g:Int),.agg #[.slice y.on.a y.on.n y.on.c,.slice y.os.a y.os.n y.os.c,.slice y.hs.a y.hs.n y.hs.c,.slice y.ms.a y.ms.n y.ms.c,.slice y.si.a y.si.n y.si.c,.slice y.so.a y.so.n y.so.c,.slice y.sf.a y.sf.n y.sf.c],.int .i64 (b:Int),.int .i64 (g:Int),.int .i64 LY,.pointer (some ⟨w.heap.size,0,none⟩),.slice (some ⟨bb,ob,none⟩) p.nb p.cb,.int .i64 (b:Int),.pointer (some ⟨bb,ob+b*4,none⟩),.pointer (some ⟨bb,ob+b*4+2,none⟩),.int .i64 LW,.bool false,.agg #[.slice p.ab p.nb p.cb,.slice p.sa p.ns p.cs],.func (.func 149) #[] #[.pointer (some ⟨w9.heap.size,0,none⟩),.pointer (some ⟨w9.heap.size+1,0,none⟩)],.int .i64 (f.1:Int),u44,u45,u46,u47,u48,u49,u50,u51,u52,u53,u54,u55,u56,u57,u58,u59,u60,u61,u62,u63,u64,u65,u66,undef],defers:=[] })
       (fun _ _ _ _ _ _ hs _ _=>hs)
       ?assign2 ?body2 ?done2 ?stop2
      case assign2 =>
       rintro l2 pre' f W' K hi hK
       gi_wp2
       exact hK _ _ (KeepsFrom.refl _ _) ⟨Below.refl _ _,fun _ h=>h⟩ hi rfl
      case done2 =>
       rintro xs W' rfl hi
       have HJ:Hid (FillK p w1.heap.size B7 (W5.heap.size+1) W0 (fillG p b (g+1) Yb) W'∧Blk W' Bx 3 1 (fun _ => .int .i64 (b:Int))∧Below W0.heap.size W W'∧KeepsFrom W6.heap.size W W'):=by
        show _∧_
        rw [HGO.out]
        exact ⟨hi.1.1,hi.1.2.1,hi.2.2⟩
       clear hi
       gi_wp2_with fail
       go_roundw
       case rel=>exact ⟨g+1,by omega,by go_num,HJ⟩
       case measure=>simp [intOf];omega
      case stop2 =>
       rintro c pre' W' hpre ⟨⟨rfl,h8,z,hsz,hkz⟩,hbw,hkf⟩
       have e1:fillF p b g (frX p false p.nb) Yg=fillF p b g pre' Yg:=fillF_end hpre rfl h8
       have e2:fillG p b p.ns Yb=fillF p b g pre' Yg:=fillG_end (HGO.out.trans e1) h8 (by omega)
       have HFX:Hid (FillX p w1.heap.size B7 W0 (.exit 0) (fillB p (pre++[⟨b,hbn,hbf⟩]) s) W'):=by
        show FillX _ _ _ _ _ _ _
        rw [HYB.out,e2]
        exact ⟨rfl,h8,z,hsz,hkz⟩
       clear e1 e2 hpre h8 hsz hkz
       gi_wp2_with fail
       exact ⟨hkf,HFX.out⟩
      case body2 =>
       rintro l2 pre' f a'' W' - - hi rfl -
       obtain ⟨f,hfn,hff⟩:=f
       dsimp only
       obtain ⟨YF,hYF⟩:∃ z,fillF p b g pre' Yg=z:=⟨_,rfl⟩
       have HFX:Hid (fillF p b g (pre'++[⟨f,hfn,hff⟩]) Yg=fillOne p b g f YF):=by show _=_;rw [fillF_snoc,hYF]
       have HFF:Hid (FillEnd p s YF):=by show FillEnd p s YF;rw [← hYF];exact HFG.out.F hbn hbf hgl _
       rw [hYF] at hi
       clear hYF
       obtain ⟨⟨⟨⟨z,hsz,hkz⟩,hbf1⟩,hbx1,hbg1⟩,hbf2,hbw,hkf⟩:=hi
       have HS:Hid (SameT z YF):=hsz
       have HRZ:Hid (RightT p z):=hsz.right HFF.out.r
       have HMN:Hid (z.ms.n=YF.ms.n):=hsz.ms.1
       have HK:Hid (RelK w1.heap.size B7 W0 z W'):=hkz
       have HWW:Hid (Below W0.heap.size W W'∧KeepsFrom W6.heap.size W W'):=⟨hbw,hkf⟩
       have HBL:Hid (Blk W' (W5.heap.size+1) 4 1 (fun _ => .bool true)∧Blk W' Bx 3 1 (fun _ => .int .i64 (b:Int))∧Blk W' Bg 3 1 (fun _ => .int .i64 (g:Int))∧Blk W' (w9.heap.size+1) 4 1 (fun _ => .bool false)):=⟨hbf1,hbx1,hbg1,hbf2⟩
       have h0W':W0.heap.size≤W'.heap.size:=hkz.bel.size
       have ms8:=HRZ.out.fm.ms8
       obtain ⟨m1,p0,p1,p2,p3,p4,p5,p6⟩:=Boxed.of HK.out.box
       clear hsz hkz hbw hkf hbf1 hbx1 hbg1 hbf2
       by_cases h8:z.ms.n=8
       ·have h8':((z.ms.n:Int)==8)=true:=by rw [beq_iff_eq];omega
        have HX8:Hid (FillX p w1.heap.size B7 W0 (.exit 0) (fillF p b g (pre'++[⟨f,hfn,hff⟩]) Yg) W'):=by
         show FillX _ _ _ _ _ _ _
         rw [HFX.out,fillOne_full (by rw [← HMN.out];omega)]
         exact ⟨rfl,by rw [← HMN.out];omega,z,HS.out,HK.out⟩
        clear h8
        gi_wp2_with fail
        exact ⟨KeepsFrom.refl _ _,HX8.out,HWW.out⟩
       ·have h8':((z.ms.n:Int)==8)=false:=beq_eq_false_iff_ne.2 (by omega)
        have hm8:z.ms.n<8:=by omega
        obtain ⟨W11,hW11,hWB11,K11⟩:∃ X,W'.alloc (.cells #[.int .i64 (g:Int),.int .i64 (f:Int),.int .i64 (b:Int),.int .i64 0] 63)=X∧Below W'.heap.size W' X∧Blk X W'.heap.size 63 4 (fun j=>(#[.int .i64 (g:Int),.int .i64 (f:Int),.int .i64 (b:Int),.int .i64 0]:Array Value).getD j default):=⟨_,rfl,(Below.refl _ _).alloc (Nat.le_refl _) _,Blk.mk' rfl rfl⟩
        have HW11:Hid (W'.alloc (.cells #[.int .i64 (g:Int),.int .i64 (f:Int),.int .i64 (b:Int),.int .i64 0] 63)=W11):=hW11
        have HB11:Hid (Below W'.heap.size W' W11):=hWB11
        have HM11:Hid (Blk W11 W'.heap.size 63 4 (fun j=>(#[.int .i64 (g:Int),.int .i64 (f:Int),.int .i64 (b:Int),.int .i64 0]:Array Value).getD j default)):=K11
        have HK11:Hid (RelK w1.heap.size B7 W0 z W11):=HK.out.below hWB11
        have hxc:=HBL.out.2.1.cell (j:=0) (by decide)
        have hxl:=HBL.out.2.1.lt
        have hgc:=HBL.out.2.2.1.cell (j:=0) (by decide)
        have hgl3:=HBL.out.2.2.1.lt
        obtain ⟨⟨⟨l1,d0,d1⟩,-,-,-,-,-,-,-,-⟩,-,-,-,-⟩:=HC.out W11 HK11.out.bel
        obtain ⟨n1,e0,e1,e2,e3,e4,e5,e6⟩:=Boxed.of HK11.out.box
        rw [← HW11.out] at l1 d0 d1 n1 e0 e1 e2 e3 e4 e5 e6
        clear hW11 hWB11 K11 h8
        gi_wp2_with (refine ⟨trivial,?_⟩;(first | gi_at_call 16 | gi_at_call 90 | gi_at_call 102 | gi_at_call 89 | gi_at_call 103);refine park ?_)
        refine unpark ?_
        rw [HW11.out]
        clear l1 d0 d1 n1 e0 e1 e2 e3 e4 e5 e6 m1 p0 p1 p2 p3 p4 p5 p6 hxc hxl hgc hgl3 HW11
        refine (CallsIn.inRound l2 (CallsIn.inRound l (callsIn_wide.2 (atMost_any p z g f b 0 W11 (HC.out W11 HK11.out.bel).2.1 HK11.out.own.at HRZ.out hgl hfn hbn)))).mono ?_
        rintro e w12 ⟨rfl,hB12⟩
        have HNE:Hid (fillN p z b g f=fillN p YF b g f):=fillN_same HS.out HFF.out.r.fm hbn hgl hfn
        generalize fillN p z b g f=NN at *
        have hBW:=HB11.out.trans (hB12.mono HB11.out.size)
        have K12:=HM11.out.below hB12
        have zl:=K12.lt
        have zf3:=K12.frozen 3
        have zc3:=K12.cell (j:=3) (by decide)
        have HBX:Hid (Below W'.heap.size W' (w12.setCell ⟨W'.heap.size,3,none⟩ (.int .i64 NN))):=hBW.setCell (p:=⟨W'.heap.size,3,none⟩) (Nat.le_refl _) _
        have K13:Blk (w12.setCell ⟨W'.heap.size,3,none⟩ (.int .i64 NN)) W'.heap.size 63 4 (fun j=>(#[.int .i64 (g:Int),.int .i64 (f:Int),.int .i64 (b:Int),.int .i64 NN]:Array Value).getD j default):=(K12.set 3 _).congr fun j hj=>by match j,hj with | 0,_=>rfl | 1,_=>rfl | 2,_=>rfl | 3,_=>rfl
        have HKX:Hid (RelK w1.heap.size B7 W0 z (w12.setCell ⟨W'.heap.size,3,none⟩ (.int .i64 NN))):=HK.out.below HBX.out
        have x0:=K13.cell (j:=0) (by decide)
        have x1:=K13.cell (j:=1) (by decide)
        have x2:=K13.cell (j:=2) (by decide)
        have x3:=K13.cell (j:=3) (by decide)
        have xl:=K13.lt
        clear hB12 hBW K12 HM11 HK11 HB11 K13
        by_cases h1:1≤NN
        ·have HFO:Hid (fillOne p b g f YF=addMove YF ⟨g,f,b,NN⟩):=by
          show _=_
          unfold fillOne
          rw [← HNE.out,if_pos ⟨by rw [← HMN.out];exact hm8,h1⟩]
         obtain ⟨iM,hM,hM0,hM1,hM2⟩:=info_parts infoMove
         have hszX:(w12.setCell ⟨W'.heap.size,3,none⟩ (.int .i64 NN)).heap.size=w12.heap.size:=by simp
         obtain ⟨W14,hW14,hWB14⟩:∃ X,(w12.setCell ⟨W'.heap.size,3,none⟩ (.int .i64 NN)).alloc (.cells #[.int .i64 (g:Int),.int .i64 (f:Int),.int .i64 (b:Int),.int .i64 NN] 63)=X∧Below (w12.setCell ⟨W'.heap.size,3,none⟩ (.int .i64 NN)).heap.size (w12.setCell ⟨W'.heap.size,3,none⟩ (.int .i64 NN)) X:=⟨_,rfl,(Below.refl _ _).alloc (Nat.le_refl _) _⟩
         have HW14:Hid ((w12.setCell ⟨W'.heap.size,3,none⟩ (.int .i64 NN)).alloc (.cells #[.int .i64 (g:Int),.int .i64 (f:Int),.int .i64 (b:Int),.int .i64 NN] 63)=W14):=hW14
         have HNW:Hid (∀ j u,(hdCells ⟨g,f,b,NN⟩)[j]?=some u→W14.cell? ((⟨w12.heap.size,0,none⟩:Addr).add j)=some u):=by
          have h:=news4 (w12.setCell ⟨W'.heap.size,3,none⟩ (.int .i64 NN)) ⟨g,f,b,NN⟩ 63
          rw [hszX] at h
          rw [← hW14]
          exact h
         obtain ⟨n1,e0,e1,e2,e3,e4,e5,e6⟩:=Boxed.of HKX.out.box
         have HK14:Hid (RelK w1.heap.size B7 W0 z W14):=HKX.out.below hWB14
         have HB14:Hid (Below W'.heap.size W' W14):=HBX.out.trans (hWB14.mono HBX.out.size)
         have msl:=HK14.out.own.ms.1
         have msc:=HK14.out.own.ms.2.1
         unfold maxLen at msc
         clear hW14 hWB14 e0 e1 e2 e4 e5 e6 HKX HBX hszX
         gi_wp2_with (gi_at_builtin;rw [HW14.out];refine wpListIn_append_room W14 rfl (.tmp 61) (.tmp 63) 29 rfl w1.heap.size 63 iM (.agg #[.int .i64 0,.int .i64 0,.int .i64 0,.int .i64 0]) 4 32 Tryz.underlying29 hM hM0 hM1 hM2 rfl (by decide) z.ms.a z.ms.n z.ms.c (flatH z.ms.n z.ms.z) rfl HK14.out.own.msr HK14.out.own.ms.1 HK14.out.own.ms.2.1 (flatH_len _ _) HK14.out.own.ms.2.2.2 ⟨w12.heap.size,0,none⟩ 1 1 (hdCells ⟨g,f,b,NN⟩) rfl rfl HNW.out (fun u hu=>by simp [hdCells] at hu;rcases hu with rfl | rfl | rfl | rfl<;>rfl) (by decide) ?zc3 ?zc4 HK14.out.le ?_)
         case zc3=>unfold maxLen;omega
         case zc4=>omega
         intro v2 w15 hown2 hgrow2
         obtain ⟨k,rfl,hKn,kn,kz,kl,hbx⟩:=HK14.out.more A2 A3 hown2 hgrow2
         have HGR:Hid (Grew w1.heap.size 63 W14 w15):=hgrow2
         have HKN:Hid (RelK w1.heap.size B7 W0 (withMoves z k) (w15.setCell ⟨B7,3,none⟩ (.slice k.a k.n k.c))):=hKn
         have HSN:Hid (SameT (withMoves z k) (fillF p b g (pre'++[⟨f,hfn,hff⟩]) Yg)):=by
          rw [HFX.out,HFO.out]
          exact addMove_same HS.out _ kn kz kl
         have HBO:Hid (∀ q t m g',t≠63→t≠31→Blk W' q t m g'→Blk (w15.setCell ⟨B7,3,none⟩ (.slice k.a k.n k.c)) q t m g'):=fun q t m g' h1 h2 hb=>by
          have h3:=HGR.out.blk (hb.below HB14.out) h1
          exact h3.other (a:=⟨B7,3,none⟩) (Blk.ne2 h3 hbx h2) _
         have HB0:Hid (Below W0.heap.size W' (w15.setCell ⟨B7,3,none⟩ (.slice k.a k.n k.c))):=(HGR.out.below (HB14.out.mono h0W') A2 (Nat.le_trans h0W' HB14.out.size)).setCell (p:=⟨B7,3,none⟩) (by show W0.heap.size≤B7;omega) _
         have HKE:Hid (KeepsOthers W' (w15.setCell ⟨B7,3,none⟩ (.slice k.a k.n k.c))):=((keeps_below HB14.out).trans HGR.out.keeps).trans (KeepsOthers.setCell _ _ _)
         have z1:=hbx.lt
         have z2:=hbx.frozen 3
         have z3:=hbx.cell (j:=3) (by decide)
         clear hown2 hgrow2 hKn kn kz kl hbx HNW HW14 n1 e3 x0 x1 x2 x3 xl zl zf3 zc3 HFO HNE
         try simp only [Act.put,List.setIfInBounds_toArray,List.set_cons_succ,List.set_cons_zero]
         gi_wp2_with fail
         refine ⟨HKE.out.from _,keeps_b HB0.out HBL.out.2.2.2 (HBO.out _ _ _ _ (by decide) (by decide) HBL.out.2.2.2),⟨⟨⟨withMoves z k,HSN.out,HKN.out⟩,HBO.out _ _ _ _ (by decide) (by decide) HBL.out.1⟩,HBO.out _ _ _ _ (by decide) (by decide) HBL.out.2.1,HBO.out _ _ _ _ (by decide) (by decide) HBL.out.2.2.1⟩,HBO.out _ _ _ _ (by decide) (by decide) HBL.out.2.2.2,HWW.out.1.trans HB0.out,HWW.out.2.trans (HKE.out.from _)⟩
        ·have HSN:Hid (SameT z (fillF p b g (pre'++[⟨f,hfn,hff⟩]) Yg)):=by
          rw [HFX.out]
          unfold fillOne
          rw [← HNE.out,if_neg (fun c=>h1 c.2)]
          exact HS.out
         clear HNE
         gi_wp2_with fail
         refine ⟨(keeps_below HBX.out).from _,keeps_b (HBX.out.mono h0W') HBL.out.2.2.2 (HBL.out.2.2.2.below HBX.out),⟨⟨⟨z,HSN.out,HKX.out⟩,HBL.out.1.below HBX.out⟩,HBL.out.2.1.below HBX.out,HBL.out.2.2.1.below HBX.out⟩,HBL.out.2.2.2.below HBX.out,HWW.out.1.trans (HBX.out.mono h0W'),HWW.out.2.trans ((keeps_below HBX.out).from _)⟩
    ·have hgn:g=p.ns:=by omega
     have r1:(p.ns:Int)≤(g:Int):=by omega
     gi_wp2_with fail
     refine ⟨HJ.out.2.2.2,keeps_b HJ.out.2.2.1 HIW.out.2 HJ.out.1.2,?_⟩
     show FillK p w1.heap.size B7 (W5.heap.size+1) W0 (fillB p (pre++[⟨b,hbn,hbf⟩]) s) _
     rw [HYB.out,← hgn]
     exact HJ.out.1
  case done =>
   rintro D xs W hD rfl ⟨⟨x,hsx,hkx⟩,-⟩ hK
   have HSM:Hid (SameT x (fillT p s)):=hsx
   clear hsx
   obtain ⟨m1,p0,p1,p2,p3,p4,p5,p6⟩:=Boxed.of hkx.box
   obtain ⟨-,-,-,hBw,hz⟩:=HC.out W hkx.bel
   have HZ:Hid (Below w.heap.size w W∧Blk W (w.heap.size+2) 31 7 (fun _ => .slice .none 0 0)):=⟨hBw,hz⟩
   have zl:=hz.lt
   have zf0:=hz.frozen 0
   have zc0:=hz.cell (j:=0) (by decide)
   have zf1:=hz.frozen 1
   have zc1:=hz.cell (j:=1) (by decide)
   have zf2:=hz.frozen 2
   have zc2:=hz.cell (j:=2) (by decide)
   have zf3:=hz.frozen 3
   have zc3:=hz.cell (j:=3) (by decide)
   have zf4:=hz.frozen 4
   have zc4:=hz.cell (j:=4) (by decide)
   have zf5:=hz.frozen 5
   have zc5:=hz.cell (j:=5) (by decide)
   have zf6:=hz.frozen 6
   have zc6:=hz.cell (j:=6) (by decide)
   have hlow:=(HC.out _ (Below.refl _ _)).2.2.2.1.size
   have HKX:Hid (RelK w1.heap.size B7 W0 x W):=hkx
   have HHK:Hid (W.heap[D]?=some (.deferred (some []))):=hK
   clear hBw hz hkx hK
   gi_wp2_with fail
   have KZ:=set7_blk HZ.out.2 (.slice x.on.a x.on.n x.on.c) (.slice x.os.a x.os.n x.os.c) (.slice x.hs.a x.hs.n x.hs.c) (.slice x.ms.a x.ms.n x.ms.c) (.slice x.si.a x.si.n x.si.c) (.slice x.so.a x.so.n x.so.c) (.slice x.sf.a x.sf.n x.sf.c)
   have hbz:=set7_below (b:=w.heap.size+2) HZ.out.1 (by omega) (.slice x.on.a x.on.n x.on.c) (.slice x.os.a x.os.n x.os.c) (.slice x.hs.a x.hs.n x.hs.c) (.slice x.ms.a x.ms.n x.ms.c) (.slice x.si.a x.si.n x.si.c) (.slice x.so.a x.so.n x.so.c) (.slice x.sf.a x.sf.n x.sf.c)
   have hOz:=OwnS.set7 HKX.out.own HZ.out.2 (.slice x.on.a x.on.n x.on.c) (.slice x.os.a x.os.n x.os.c) (.slice x.hs.a x.hs.n x.hs.c) (.slice x.ms.a x.ms.n x.ms.c) (.slice x.si.a x.si.n x.si.c) (.slice x.so.a x.so.n x.so.c) (.slice x.sf.a x.sf.n x.sf.c)
   have hKz:=(set7_heap (w:=W) (show D≠w.heap.size+2 by omega) (.slice x.on.a x.on.n x.on.c) (.slice x.os.a x.os.n x.os.c) (.slice x.hs.a x.hs.n x.hs.c) (.slice x.ms.a x.ms.n x.ms.c) (.slice x.si.a x.si.n x.si.c) (.slice x.so.a x.so.n x.so.c) (.slice x.sf.a x.sf.n x.sf.c)).trans HHK.out
   unfold set7 at KZ hbz hOz hKz
   have ck:=CellsKept.of (grownBy_putObj' _ D (.deferred none)) (fun r e=>by cases e;exact ⟨_,hKz,rfl⟩)
   have KZ2:=KZ.ck ck
   have hOz2:=hOz.ck ck
   have hbz2:=hbz.grown (grownBy_putObj' _ D (.deferred none)) (by have:=hbz.size;omega) (fun k e=>by cases e;omega)
   obtain ⟨c0',c1',c2',c3',c4',c5',c6'⟩:=box_cells KZ2
   refine leave_marked (v := .tuple #[x.val,.int .i64 0]) hKz (by simp [results,Tryz.results46,go_sem,St.val,c0',c1',c2',c3',c4',c5',c6']) rfl ?_
   exact ⟨x,by rw [H0.out];rfl,hOz2.at,⟨fun _=>HSM.out,fun h=>absurd H0.out h⟩,fun _=>hOz2.mono (by omega),hbz2⟩
  case stop =>
   rintro D c pre W hD hpre ⟨rfl,h8,x,hsx,hkx⟩ hK
   have HSM:Hid (SameT x (fillT p s)):=by
    have e:fillT p s=fillB p pre s:=fillB_end hpre rfl h8
    rw [e]
    exact hsx
   clear hsx h8 hpre
   obtain ⟨m1,p0,p1,p2,p3,p4,p5,p6⟩:=Boxed.of hkx.box
   obtain ⟨-,-,-,hBw,hz⟩:=HC.out W hkx.bel
   have HZ:Hid (Below w.heap.size w W∧Blk W (w.heap.size+2) 31 7 (fun _ => .slice .none 0 0)):=⟨hBw,hz⟩
   have zl:=hz.lt
   have zf0:=hz.frozen 0
   have zc0:=hz.cell (j:=0) (by decide)
   have zf1:=hz.frozen 1
   have zc1:=hz.cell (j:=1) (by decide)
   have zf2:=hz.frozen 2
   have zc2:=hz.cell (j:=2) (by decide)
   have zf3:=hz.frozen 3
   have zc3:=hz.cell (j:=3) (by decide)
   have zf4:=hz.frozen 4
   have zc4:=hz.cell (j:=4) (by decide)
   have zf5:=hz.frozen 5
   have zc5:=hz.cell (j:=5) (by decide)
   have zf6:=hz.frozen 6
   have zc6:=hz.cell (j:=6) (by decide)
   have hlow:=(HC.out _ (Below.refl _ _)).2.2.2.1.size
   have HKX:Hid (RelK w1.heap.size B7 W0 x W):=hkx
   have HHK:Hid (W.heap[D]?=some (.deferred (some []))):=hK
   clear hBw hz hkx hK
   gi_wp2_with fail
   have KZ:=set7_blk HZ.out.2 (.slice x.on.a x.on.n x.on.c) (.slice x.os.a x.os.n x.os.c) (.slice x.hs.a x.hs.n x.hs.c) (.slice x.ms.a x.ms.n x.ms.c) (.slice x.si.a x.si.n x.si.c) (.slice x.so.a x.so.n x.so.c) (.slice x.sf.a x.sf.n x.sf.c)
   have hbz:=set7_below (b:=w.heap.size+2) HZ.out.1 (by omega) (.slice x.on.a x.on.n x.on.c) (.slice x.os.a x.os.n x.os.c) (.slice x.hs.a x.hs.n x.hs.c) (.slice x.ms.a x.ms.n x.ms.c) (.slice x.si.a x.si.n x.si.c) (.slice x.so.a x.so.n x.so.c) (.slice x.sf.a x.sf.n x.sf.c)
   have hOz:=OwnS.set7 HKX.out.own HZ.out.2 (.slice x.on.a x.on.n x.on.c) (.slice x.os.a x.os.n x.os.c) (.slice x.hs.a x.hs.n x.hs.c) (.slice x.ms.a x.ms.n x.ms.c) (.slice x.si.a x.si.n x.si.c) (.slice x.so.a x.so.n x.so.c) (.slice x.sf.a x.sf.n x.sf.c)
   have hKz:=(set7_heap (w:=W) (show D≠w.heap.size+2 by omega) (.slice x.on.a x.on.n x.on.c) (.slice x.os.a x.os.n x.os.c) (.slice x.hs.a x.hs.n x.hs.c) (.slice x.ms.a x.ms.n x.ms.c) (.slice x.si.a x.si.n x.si.c) (.slice x.so.a x.so.n x.so.c) (.slice x.sf.a x.sf.n x.sf.c)).trans HHK.out
   unfold set7 at KZ hbz hOz hKz
   have ck:=CellsKept.of (grownBy_putObj' _ D (.deferred none)) (fun r e=>by cases e;exact ⟨_,hKz,rfl⟩)
   have KZ2:=KZ.ck ck
   have hOz2:=hOz.ck ck
   have hbz2:=hbz.grown (grownBy_putObj' _ D (.deferred none)) (by have:=hbz.size;omega) (fun k e=>by cases e;omega)
   obtain ⟨c0',c1',c2',c3',c4',c5',c6'⟩:=box_cells KZ2
   refine leave_marked (v := .tuple #[x.val,.int .i64 0]) hKz (by simp [results,Tryz.results46,go_sem,St.val,c0',c1',c2',c3',c4',c5',c6']) rfl ?_
   exact ⟨x,by rw [H0.out];rfl,hOz2.at,⟨fun _=>HSM.out,fun h=>absurd H0.out h⟩,fun _=>hOz2.mono (by omega),hbz2⟩
 ·have HNE:Hid (¬ stateE p s=0):=h0
  have g0:(stateE p s !=0)=true:=by simpa using h0
  clear h0 hpk hsk
  have zl:=hz.lt
  have zf0:=hz.frozen 0
  have zc0:=hz.cell (j:=0) (by decide)
  have zf1:=hz.frozen 1
  have zc1:=hz.cell (j:=1) (by decide)
  have zf2:=hz.frozen 2
  have zc2:=hz.cell (j:=2) (by decide)
  have zf3:=hz.frozen 3
  have zc3:=hz.cell (j:=3) (by decide)
  have zf4:=hz.frozen 4
  have zc4:=hz.cell (j:=4) (by decide)
  have zf5:=hz.frozen 5
  have zc5:=hz.cell (j:=5) (by decide)
  have zf6:=hz.frozen 6
  have zc6:=hz.cell (j:=6) (by decide)
  gi_wp2_with fail
  have KZ:=set7_blk hz (.slice .none 0 0) (.slice .none 0 0) (.slice .none 0 0) (.slice .none 0 0) (.slice .none 0 0) (.slice .none 0 0) (.slice .none 0 0)
  have hbz:=set7_below (b:=w.heap.size+2) hBw (by omega) (.slice .none 0 0) (.slice .none 0 0) (.slice .none 0 0) (.slice .none 0 0) (.slice .none 0 0) (.slice .none 0 0) (.slice .none 0 0)
  unfold set7 at KZ hbz
  obtain ⟨c0',c1',c2',c3',c4',c5',c6'⟩:=box_cells KZ
  refine leave_ret (v := .tuple #[noneS.val,.int .i64 (stateE p s)]) (by simp [results,Tryz.results46,go_sem,noneS,St.val,c0',c1',c2',c3',c4',c5',c6']) rfl ?_
  exact ⟨noneS,rfl,noneS_at _,⟨fun h=>absurd h (HNE.out),fun _=>⟨rfl,rfl,rfl,rfl,rfl,rfl,rfl⟩⟩,fun h=>absurd h (HNE.out),hbz⟩
end Go.Proofs.YtbcacebifpagpagGreat
