/- RestStates: whatever plan, right state and act it is handed: what came of log.Do, and was overwritten whole, changes neither the plan and the state that were handed in nor what comes of the same act done again, which is what the document gives. -/
import Derived.Test.YtbcacebifpagpagGreatK8RestStates
import Derived.ShutString
import Derived.ChangeOld
namespace Go.Proofs.YtbcacebifpagpagGreat.RestStatesFrame
variable{n b A g o l c i q j R L M:Nat}{w a d:World}{s x y u:St}{r W J D:Int}{e H:TypeId}{p:Pl}{z O:Nat->Hd}{f f':Nat->Value}{Q:Exit->Act->World->Prop}{v c1 c3 c2:Value}{xs:List Value}{U V:Hs}{X Y:Int->Int->Int}{P:Program}{h Z:Hd}{t:List UInt8}{E:Hd->Bool}{z' zs:Nat->Int}{S:World->Prop}{a1:Act}{K:Act->World->Prop}
open _root_.Go.Proofs.Tryz
open Go.ChangeShapes Go.WideShapes Go.ChangeAt Go.RowKit
set_option linter.unusedVariables false
set_option maxRecDepth 100000 in
theorem Jn(os:Go.Os)(c:os.Started)(H:Type)(enc:TypeId × Value->H):
  ReturnsInHanded {} Tryz.checked os 7 .any (Rows.restStatesSpec.pre6 enc prog Tryz.f7 Rows.restStatesRow.domain false) (Rows.restStatesSpec.post enc prog Tryz.f7 false true false false):=by
 refine returnsInHanded_of_change (C:=Tryz.checked) own c (by kernel_rfl) func7
  (ChangeSpec.witness6 (enc:=enc) (C:=Tryz.checked) false ⟨#[],#[.agg #[.slice none 0 0,.slice none 0 0],.agg #[.slice none 0 0,.slice none 0 0,.slice none 0 0,.slice none 0 0,.slice none 0 0,.slice none 0 0,.slice none 0 0],.agg #[.int .i64 0,.int .i64 0,.int .i64 0,.int .i64 0,.int .i64 0,.slice none 0 0]],[]⟩ 8 (by kernel_rfl) (by kernel_rfl) (by kernel_rfl) (by kernel_rfl)) ?_
 intro W base args J gs ng b o P _;have a:∀(j:Nat) t v,Tryz.f7.params[j]?=some t->args[j]?=some v->Value.okWide prog W .any base t v:=b;have l:=o;obtain⟨p,q,f,F,rfl,ab,aa⟩:=o;have y:DataW.TrodAll enc prog W 0 (λ_=>true) true Tryz.f7.params.toList args.toList J p:=f;rw[Tryz.params7] at y a;obtain⟨n,af,d0,ac,D,q0,B,rfl,rfl,k,Q⟩:=trodAll_cons y;obtain⟨r,Y,d1,ad,L,q1,rfl,rfl,rfl,i,E⟩:=trodAll_cons Q;obtain⟨s,ag,d2,ae,V,q2,rfl,rfl,rfl,g,S⟩:=trodAll_cons E;obtain⟨rfl,rfl,rfl⟩:=trodAll_nil S;obtain rfl:args=#[n,r,s]:=by cases args;simp_all
 obtain⟨rfl,rfl⟩:=trodVars_none F;have A:∀x∈D,x.block<W.heap.size:=by obtain⟨m,d⟩:=k;exact DataW.trod_lt m _ _ _ d
 have lt1:∀x∈L,x.block<W.heap.size:=by obtain⟨m,d⟩:=i;exact DataW.trod_lt m _ _ _ d
 have lt2:∀x∈V,x.block<W.heap.size:=by obtain⟨m,d⟩:=g;exact DataW.trod_lt m _ _ _ d
 have U:=k;obtain⟨T,rfl,z⟩:=Mc (a 0 25 n rfl rfl) k;have G:=i;obtain⟨K,rfl,u⟩:=Zq (a 1 31 r rfl rfl) i;have M:=g;obtain⟨X,rfl,w⟩:=acs (a 2 47 s rfl rfl) g;clear f b;refine(M3 T K X W z u w).mono λe W' ⟨he,bel⟩=> ?_;subst he;exact⟨_,rfl,_,_,_,[],_,[],l,trodAll_mk1 (shut_bool underlying4 _),(trodAll_cons_mk (Below.trod yw (by kernel_rfl) (of_decide_eq_true (by kernel_rfl)) U bel A) (trodAll_cons_mk (Below.trod yw (by kernel_rfl) (of_decide_eq_true (by kernel_rfl)) G bel lt1) (trodAll_cons_mk (Below.trod yw (by kernel_rfl) (of_decide_eq_true (by kernel_rfl)) M bel lt2) trodAll_mk0))),rfl,bel.frame _,λh=>by cases h⟩
theorem over:Rows.restStatesRow.holds Tryz.pinned (OpenSpec.ofChange Rows.restStatesSpec):=
 OpenClaim.holds_of_wide 7 Tryz.f7 rfl rfl rfl rfl rfl rfl rfl ⟨rfl,rfl,rfl,rfl,rfl⟩ rfl rfl rfl rfl rfl (by kernel_rfl) func7 (by kernel_rfl)
  (of_decide_eq_true (by kernel_rfl)) (by unfold Func.isWrapper;first|(rw[if_pos (by decide +kernel)];kernel_rfl)|(rw[if_neg (by decide +kernel)];exact⟨rfl,rfl⟩))
  (λos a H enc _=>Jn os a H enc)
end Go.Proofs.YtbcacebifpagpagGreat.RestStatesFrame
namespace Go.Proofs.YtbcacebifpagpagGreat
variable{n b A g o l c i q j R L M:Nat}{w a d:World}{s x y u:St}{r W J D:Int}{e H:TypeId}{p:Pl}{z O:Nat->Hd}{f f':Nat->Value}{Q:Exit->Act->World->Prop}{v c1 c3 c2:Value}{xs:List Value}{U V:Hs}{X Y:Int->Int->Int}{P:Program}{h Z:Hd}{t:List UInt8}{E:Hd->Bool}{z' zs:Nat->Int}{S:World->Prop}{a1:Act}{K:Act->World->Prop}
open _root_.Go.Proofs.Tryz
theorem RestStates_holds:Rows.RestStatesSaid:=RestStatesFrame.over
#print axioms RestStates_holds
end Go.Proofs.YtbcacebifpagpagGreat
