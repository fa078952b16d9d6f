/- LogKept: whatever plan, list of acts and place of a cut it is handed: what log.Recover makes of a log of those acts that is cut there is what the document's acts come to that are whole in it, in number and in state, and it is right. -/
import Derived.Test.YtbcacebifpagpagGreatK8LogKept
import Derived.ShutString
import Derived.ChangeOld
import Derived.OpenShut
namespace Go.Proofs.YtbcacebifpagpagGreat.LogKeptFrame
variable{n b A g o l c i q j R L M:Nat}{w a d:World}{s x y u:St}{r W J D:Int}{e H:TypeId}{p:Pl}{z O:Nat->Hd}{f f':Nat->Value}{Q:Exit->Act->World->Prop}{v c1 c3 c2:Value}{xs:List Value}{U V:Hs}{X Y:Int->Int->Int}{P:Program}{h Z:Hd}{t:List UInt8}{E:Hd->Bool}{z' zs:Nat->Int}{S:World->Prop}{a1:Act}{K:Act->World->Prop}
open _root_.Go.Proofs.Tryz
open Go.ChangeShapes Go.WideShapes Go.ChangeAt Go.RowKit
set_option linter.unusedVariables false
set_option maxRecDepth 100000 in
theorem Jn(os:Go.Os)(d:os.Started)(H:Type)(enc:TypeId × Value->H):
  ReturnsInHanded {} Tryz.checked os 4 .any (Rows.logKeptSpec.pre6 enc prog Tryz.f4 Rows.logKeptRow.domain false) (Rows.logKeptSpec.post enc prog Tryz.f4 false true false false):=by
 refine returnsInHanded_of_change_sized (C:=Tryz.checked) own d (by kernel_rfl) func4
  (ChangeSpec.witness6 (enc:=enc) (C:=Tryz.checked) false ⟨#[],#[.agg #[.slice none 0 0,.slice none 0 0],.slice none 0 0,.int .i64 0],[]⟩ 8 (by kernel_rfl) (by kernel_rfl) (by kernel_rfl) (by kernel_rfl)) ?_
 intro W base args L gs ng c r S l _;have a:∀(j:Nat) t v,Tryz.f4.params[j]?=some t->args[j]?=some v->Value.okWide prog W .any base t v:=c;have n:=r;obtain⟨p,q,f,G,rfl,ad,ac⟩:=r;have z:DataW.TrodAll enc prog W 0 (λ_=>true) true Tryz.f4.params.toList args.toList L p:=f;rw[Tryz.params4] at z a;obtain⟨o,ah,d0,ae,E,q0,D,rfl,rfl,k,T⟩:=trodAll_cons z;obtain⟨s,ab,d1,af,M,q1,rfl,rfl,rfl,i,F⟩:=trodAll_cons T;obtain⟨w,ai,d2,ag,p2,q2,rfl,rfl,rfl,g,V⟩:=trodAll_cons F;obtain⟨rfl,rfl,rfl⟩:=trodAll_nil V;obtain rfl:args=#[o,s,w]:=by cases args;simp_all
 obtain⟨rfl,rfl⟩:=trodVars_none G;have B:∀x∈E,x.block<W.heap.size:=by obtain⟨m,b⟩:=k;exact DataW.trod_lt m _ _ _ b
 have lt1:∀x∈M,x.block<W.heap.size:=by obtain⟨m,b⟩:=i;exact DataW.trod_lt m _ _ _ b
 have lt2:∀x∈p2,x.block<W.heap.size:=by obtain⟨m,b⟩:=g;exact DataW.trod_lt m _ _ _ b
 have Y:=k;obtain⟨X,rfl,A⟩:=Mc (a 0 25 o rfl rfl) k;have K:=i;obtain⟨P,rfl,y,u⟩:=abd (a 1 36 s rfl rfl) i (λm b=>by have:=List.all_eq_true.1 l m (DataW.weights_mem_each (j:=1) (t:=36) rfl rfl m b);simpa using this);have Q:=g;obtain⟨J,rfl,rfl,rfl,U⟩:=open_int underlying3 (a 2 3 w rfl rfl) g;clear f c;refine(Ro X P J W A y u (bounds_i64 U)).mono λe W' ⟨he,bel⟩=> ?_;subst he;exact⟨_,rfl,_,_,_,[],_,[],n,trodAll_mk1 (shut_bool underlying4 _),(trodAll_cons_mk (Below.trod yw (by kernel_rfl) (of_decide_eq_true (by kernel_rfl)) Y bel B) (trodAll_cons_mk (Below.trod yw (by kernel_rfl) (of_decide_eq_true (by kernel_rfl)) K bel lt1) (trodAll_cons_mk (Below.trod yw (by kernel_rfl) (of_decide_eq_true (by kernel_rfl)) Q bel lt2) trodAll_mk0))),rfl,bel.frame _,λh=>by cases h⟩
theorem over:Rows.logKeptRow.holds Tryz.pinned (OpenSpec.ofChange Rows.logKeptSpec):=
 OpenClaim.holds_of_wide 4 Tryz.f4 rfl rfl rfl rfl rfl rfl rfl ⟨rfl,rfl,rfl,rfl,rfl⟩ rfl rfl rfl rfl rfl (by kernel_rfl) func4 (by kernel_rfl)
  (of_decide_eq_true (by kernel_rfl)) (by unfold Func.isWrapper;first|(rw[if_pos (by decide +kernel)];kernel_rfl)|(rw[if_neg (by decide +kernel)];exact⟨rfl,rfl⟩))
  (λos a H enc _=>Jn os a H enc)
end Go.Proofs.YtbcacebifpagpagGreat.LogKeptFrame
namespace Go.Proofs.YtbcacebifpagpagGreat
variable{n b A g o l c i q j R L M:Nat}{w a d:World}{s x y u:St}{r W J D:Int}{e H:TypeId}{p:Pl}{z O:Nat->Hd}{f f':Nat->Value}{Q:Exit->Act->World->Prop}{v c1 c3 c2:Value}{xs:List Value}{U V:Hs}{X Y:Int->Int->Int}{P:Program}{h Z:Hd}{t:List UInt8}{E:Hd->Bool}{z' zs:Nat->Int}{S:World->Prop}{a1:Act}{K:Act->World->Prop}
open _root_.Go.Proofs.Tryz
theorem LogKept_holds:Rows.LogKeptSaid:=LogKeptFrame.over
#print axioms LogKept_holds
end Go.Proofs.YtbcacebifpagpagGreat
