/- LogRecovers: whatever plan and text it is handed, log.Recover answers the error, the number of acts and the state that the document gives: the code's answer is the reference's, and what must be in any case of writing, replaying and recovering is so. -/
import Derived.Test.YtbcacebifpagpagGreatK8LogRecovers
import Derived.ShutString
import Derived.ChangeOld
namespace Go.Proofs.YtbcacebifpagpagGreat.LogRecoversFrame
variable{n b A g o l c i q j R L M:Nat}{w a d:World}{s x y u:St}{r W J D:Int}{e H:TypeId}{p:Pl}{z O:Nat->Hd}{f f':Nat->Value}{Q:Exit->Act->World->Prop}{v c1 c3 c2:Value}{xs:List Value}{U V:Hs}{X Y:Int->Int->Int}{P:Program}{h Z:Hd}{t:List UInt8}{E:Hd->Bool}{z' zs:Nat->Int}{S:World->Prop}{a1:Act}{K:Act->World->Prop}
open _root_.Go.Proofs.Tryz
open Go.ChangeShapes Go.WideShapes Go.ChangeAt Go.RowKit
set_option linter.unusedVariables false
set_option maxRecDepth 100000 in
theorem Jn(os:Go.Os)(c:os.Started)(H:Type)(enc:TypeId × Value->H):
  ReturnsInHanded {} Tryz.checked os 3 .any (Rows.logRecoversSpec.pre6 enc prog Tryz.f3 Rows.logRecoversRow.domain false) (Rows.logRecoversSpec.post enc prog Tryz.f3 false true false false):=by
 refine returnsInHanded_of_change (C:=Tryz.checked) own c (by kernel_rfl) func3
  (ChangeSpec.witness6 (enc:=enc) (C:=Tryz.checked) false ⟨#[],#[.agg #[.slice none 0 0,.slice none 0 0],.string ⟨#[]⟩],[]⟩ 8 (by kernel_rfl) (by kernel_rfl) (by kernel_rfl) (by kernel_rfl)) ?_
 intro W base args D V ng b n F _;have a:∀(j:Nat) t v,Tryz.f3.params[j]?=some t->args[j]?=some v->Value.okWide prog W .any base t v:=b;have k:=n;obtain⟨p,q,d,A,rfl,Q,P⟩:=n;have r:DataW.TrodAll enc prog W 0 (λ_=>true) true Tryz.f3.params.toList args.toList D p:=d;rw[Tryz.params3] at r a;obtain⟨l,U,X,S,y,q0,w,rfl,rfl,i,J⟩:=trodAll_cons r;obtain⟨o,M,d1,T,E,Y,rfl,rfl,rfl,f,z⟩:=trodAll_cons J;obtain⟨rfl,rfl,rfl⟩:=trodAll_nil z;obtain rfl:args=#[l,o]:=by cases args;simp_all
 obtain⟨rfl,rfl⟩:=trodVars_none A;have u:∀x∈y,x.block<W.heap.size:=by obtain⟨m,g⟩:=i;exact DataW.trod_lt m _ _ _ g
 have lt1:∀x∈E,x.block<W.heap.size:=by obtain⟨m,g⟩:=f;exact DataW.trod_lt m _ _ _ g
 have L:=i;obtain⟨K,rfl,s⟩:=Mc (a 0 25 l rfl rfl) i;have B:=f;obtain⟨G,rfl⟩:=S4 (a 1 9 o rfl rfl) f;clear d b;refine(Lw K G W s).mono λe W' ⟨he,bel⟩=> ?_;subst he;exact⟨_,rfl,_,_,_,[],_,[],k,trodAll_mk1 (shut_bool underlying4 _),(trodAll_cons_mk (Below.trod yw (by kernel_rfl) (of_decide_eq_true (by kernel_rfl)) L bel u) (trodAll_cons_mk (Below.trod yw (by kernel_rfl) (of_decide_eq_true (by kernel_rfl)) B bel lt1) trodAll_mk0)),rfl,bel.frame _,λh=>by cases h⟩
theorem over:Rows.logRecoversRow.holds Tryz.pinned (OpenSpec.ofChange Rows.logRecoversSpec):=
 OpenClaim.holds_of_wide 3 Tryz.f3 rfl rfl rfl rfl rfl rfl rfl ⟨rfl,rfl,rfl,rfl,rfl⟩ rfl rfl rfl rfl rfl (by kernel_rfl) func3 (by kernel_rfl)
  (of_decide_eq_true (by kernel_rfl)) (by unfold Func.isWrapper;first|(rw[if_pos (by decide +kernel)];kernel_rfl)|(rw[if_neg (by decide +kernel)];exact⟨rfl,rfl⟩))
  (λos a H enc _=>Jn os a H enc)
end Go.Proofs.YtbcacebifpagpagGreat.LogRecoversFrame
namespace Go.Proofs.YtbcacebifpagpagGreat
variable{n b A g o l c i q j R L M:Nat}{w a d:World}{s x y u:St}{r W J D:Int}{e H:TypeId}{p:Pl}{z O:Nat->Hd}{f f':Nat->Value}{Q:Exit->Act->World->Prop}{v c1 c3 c2:Value}{xs:List Value}{U V:Hs}{X Y:Int->Int->Int}{P:Program}{h Z:Hd}{t:List UInt8}{E:Hd->Bool}{z' zs:Nat->Int}{S:World->Prop}{a1:Act}{K:Act->World->Prop}
open _root_.Go.Proofs.Tryz
theorem LogRecovers_holds:Rows.LogRecoversSaid:=LogRecoversFrame.over
#print axioms LogRecovers_holds
end Go.Proofs.YtbcacebifpagpagGreat
