/- RestStates: whatever plan, right state and act it is handed: what came of log.Do, and was overwritten whole, changes neither the plan and the state that were handed in nor what comes of the same act done again, which is what the document gives. -/
import Derived.Test.YtbcacebifpagpagGreatK7RestStates
import Derived.ShutString
import Derived.ChangeOld
namespace Go.Proofs.YtbcacebifpagpagGreat.RestStatesFrame
open _root_.Go.Proofs.Tryz
open Go.ChangeShapes Go.WideShapes Go.ChangeAt Go.RowKit
set_option linter.unusedVariables false
set_option maxRecDepth 100000 in
theorem abq(os:Go.Os)(c:os.Started)(H:Type)(enc:TypeId × Value->H):
  ReturnsInHanded {} Tryz.checked os 7 .any (Rows.restStatesSpec.pre6 enc prog Tryz.f7 Rows.restStatesRow.domain false) (Rows.restStatesSpec.post enc prog Tryz.f7 false true false false):=by
 refine returnsInHanded_of_change (C:=Tryz.checked) own c (by kernel_rfl) func7
  (ChangeSpec.witness6 (enc:=enc) (C:=Tryz.checked) false ⟨#[],#[.agg #[.slice none 0 0,.slice none 0 0],.agg #[.slice none 0 0,.slice none 0 0,.slice none 0 0,.slice none 0 0,.slice none 0 0,.slice none 0 0,.slice none 0 0],.agg #[.int .i64 0,.int .i64 0,.int .i64 0,.int .i64 0,.int .i64 0,.slice none 0 0]],[]⟩ 8 (by kernel_rfl) (by kernel_rfl) (by kernel_rfl) (by kernel_rfl)) ?_
 intro W base args T gs nj b u X _;have a:∀(j:Nat) t v,Tryz.f7.params[j]?=some t->args[j]?=some v->Value.okWide prog W .any base t v:=b;have s:=u;obtain⟨p,q,f,F,rfl,Y,ag⟩:=u;have z:DataW.TrodAll enc prog W 0 (λ_=>true) true Tryz.f7.params.toList args.toList T p:=f;rw[Tryz.params7] at z a;obtain⟨A,af,d0,ad,P,q0,B,rfl,rfl,g,K⟩:=trodAll_cons z;obtain⟨y,ae,d1,ac,J,q1,rfl,rfl,rfl,i,Q⟩:=trodAll_cons K;obtain⟨o,aa,d2,ab,M,q2,rfl,rfl,rfl,k,V⟩:=trodAll_cons Q;obtain⟨rfl,rfl,rfl⟩:=trodAll_nil V;obtain rfl:args=#[A,y,o]:=by cases args;simp_all
 obtain⟨rfl,rfl⟩:=trodVars_none F;have w:∀x∈P,x.block<W.heap.size:=by obtain⟨m,d⟩:=g;exact DataW.trod_lt m _ _ _ d
 have lt1:∀x∈J,x.block<W.heap.size:=by obtain⟨m,d⟩:=i;exact DataW.trod_lt m _ _ _ d
 have lt2:∀x∈M,x.block<W.heap.size:=by obtain⟨m,d⟩:=k;exact DataW.trod_lt m _ _ _ d
 have S:=g;obtain⟨L,rfl,r⟩:=Y9 (a 0 25 A rfl rfl) g;have D:=i;obtain⟨G,rfl,n⟩:=Xj (a 1 31 y rfl rfl) i;have U:=k;obtain⟨E,rfl,l⟩:=aau (a 2 47 o rfl rfl) k;clear f b;refine(Lk L G E W r n l).mono λe W' ⟨he,bel⟩=> ?_;subst he;exact⟨_,rfl,_,_,_,[],_,[],s,trodAll_mk1 (shut_bool underlying4 _),(trodAll_cons_mk (Below.trod Je (by kernel_rfl) (of_decide_eq_true (by kernel_rfl)) S bel w) (trodAll_cons_mk (Below.trod Je (by kernel_rfl) (of_decide_eq_true (by kernel_rfl)) D bel lt1) (trodAll_cons_mk (Below.trod Je (by kernel_rfl) (of_decide_eq_true (by kernel_rfl)) U bel lt2) trodAll_mk0))),rfl,bel.frame _,λh=>by cases h⟩
theorem over:Rows.restStatesRow.holds Tryz.pinned (OpenSpec.ofChange Rows.restStatesSpec):=
 OpenClaim.holds_of_wide 7 Tryz.f7 rfl rfl rfl rfl rfl rfl rfl ⟨rfl,rfl,rfl,rfl,rfl⟩ rfl rfl rfl rfl rfl (by kernel_rfl) func7 (by kernel_rfl)
  (of_decide_eq_true (by kernel_rfl)) (by unfold Func.isWrapper;first|(rw[if_pos (by decide +kernel)];kernel_rfl)|(rw[if_neg (by decide +kernel)];exact⟨rfl,rfl⟩))
  (λos a H enc _=>abq os a H enc)
end Go.Proofs.YtbcacebifpagpagGreat.RestStatesFrame
namespace Go.Proofs.YtbcacebifpagpagGreat
open _root_.Go.Proofs.Tryz
theorem RestStates_holds:Rows.RestStatesSaid:=RestStatesFrame.over
#print axioms RestStates_holds
end Go.Proofs.YtbcacebifpagpagGreat
