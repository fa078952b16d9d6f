/- LogDoes: whatever plan, state and act it is handed, log.Do answers the error and the state that the document gives: the code's answer is the reference's, and what must be in any case of writing, replaying and recovering is so. -/
import Derived.Test.YtbcacebifpagpafGreatK7LogDoes
import Derived.ShutString
import Derived.ChangeOld
namespace Go.Proofs.YtbcacebifpagpafGreat.LogDoesFrame
open _root_.Go.Proofs.Tryz
open Go.ChangeShapes Go.WideShapes Go.ChangeAt Go.RowKit
set_option linter.unusedVariables false
set_option maxRecDepth 100000 in
theorem abc(os:Go.Os)(c:os.Started)(H:Type)(enc:TypeId × Value->H):
  ReturnsInHanded {} Tryz.checked os 4 .any (Rows.logDoesSpec.pre6 enc prog Tryz.f4 Rows.logDoesRow.domain false) (Rows.logDoesSpec.post enc prog Tryz.f4 false true false false):=by
 refine returnsInHanded_of_change (C:=Tryz.checked) own c (by kernel_rfl) func4
  (ChangeSpec.witness6 (enc:=enc) (C:=Tryz.checked) false ⟨#[],#[.agg #[.slice none 0 0,.slice none 0 0],.agg #[.slice none 0 0,.slice none 0 0,.slice none 0 0,.slice none 0 0,.slice none 0 0,.slice none 0 0,.slice none 0 0],.agg #[.int .i64 0,.int .i64 0,.int .i64 0,.int .i64 0,.int .i64 0,.slice none 0 0]],[]⟩ 8 (by kernel_rfl) (by kernel_rfl) (by kernel_rfl) (by kernel_rfl)) ?_
 intro W base args F gs nt b r M _;have a:∀(j:Nat) t v,Tryz.f4.params[j]?=some t->args[j]?=some v->Value.okWide prog W .any base t v:=b;have n:=r;obtain⟨p,q,f,X,rfl,ac,ab⟩:=r;have s:DataW.TrodAll enc prog W 0 (λ_=>true) true Tryz.f4.params.toList args.toList F p:=f;rw[Tryz.params4] at s a;obtain⟨l,ad,d0,Y,K,q0,B,rfl,rfl,i,J⟩:=trodAll_cons s;obtain⟨A,af,d1,ae,D,q1,rfl,rfl,rfl,k,S⟩:=trodAll_cons J;obtain⟨y,ag,d2,aa,Q,q2,rfl,rfl,rfl,g,V⟩:=trodAll_cons S;obtain⟨rfl,rfl,rfl⟩:=trodAll_nil V;obtain rfl:args=#[l,A,y]:=by cases args;simp_all
 obtain⟨rfl,rfl⟩:=trodVars_none X;have u:∀x∈K,x.block<W.heap.size:=by obtain⟨m,d⟩:=i;exact DataW.trod_lt m _ _ _ d
 have lt1:∀x∈D,x.block<W.heap.size:=by obtain⟨m,d⟩:=k;exact DataW.trod_lt m _ _ _ d
 have lt2:∀x∈Q,x.block<W.heap.size:=by obtain⟨m,d⟩:=g;exact DataW.trod_lt m _ _ _ d
 have U:=i;obtain⟨T,rfl,o⟩:=Y5 (a 0 25 l rfl rfl) i;have G:=k;obtain⟨E,rfl,z⟩:=V6 (a 1 31 A rfl rfl) k;have L:=g;obtain⟨P,rfl,w⟩:=aax (a 2 34 y rfl rfl) g;clear f b;refine(Rq T E P W o z w).mono λe W' ⟨he,bel⟩=> ?_;subst he;exact⟨_,rfl,_,_,_,[],_,[],n,trodAll_mk1 (shut_bool underlying4 _),(trodAll_cons_mk (Below.trod Jd (by kernel_rfl) (of_decide_eq_true (by kernel_rfl)) U bel u) (trodAll_cons_mk (Below.trod Jd (by kernel_rfl) (of_decide_eq_true (by kernel_rfl)) G bel lt1) (trodAll_cons_mk (Below.trod Jd (by kernel_rfl) (of_decide_eq_true (by kernel_rfl)) L bel lt2) trodAll_mk0))),rfl,bel.frame _,λh=>by cases h⟩
theorem over:Rows.logDoesRow.holds Tryz.pinned (OpenSpec.ofChange Rows.logDoesSpec):=
 OpenClaim.holds_of_wide 4 Tryz.f4 rfl rfl rfl rfl rfl rfl rfl ⟨rfl,rfl,rfl,rfl,rfl⟩ rfl rfl rfl rfl rfl (by kernel_rfl) func4 (by kernel_rfl)
  (of_decide_eq_true (by kernel_rfl)) (by unfold Func.isWrapper;first|(rw[if_pos (by decide +kernel)];kernel_rfl)|(rw[if_neg (by decide +kernel)];exact⟨rfl,rfl⟩))
  (λos a H enc _=>abc os a H enc)
end Go.Proofs.YtbcacebifpagpafGreat.LogDoesFrame
namespace Go.Proofs.YtbcacebifpagpafGreat
open _root_.Go.Proofs.Tryz
theorem LogDoes_holds:Rows.LogDoesSaid:=LogDoesFrame.over
#print axioms LogDoes_holds
end Go.Proofs.YtbcacebifpagpafGreat
