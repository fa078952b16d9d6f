/- DeskPlays: whatever plan and text it is handed, desk.Play answers the text and the error that the document gives: the code's answer is the reference's, and what must be in any case at the desk is so. Conditions: package variables of Go's own library begin as the program's text lays them (the card's tie). -/
import Derived.Test.YtjgckphgagdpaaaGreatDoorK7DeskPlays
import Derived.ShutString
import Derived.ChangeOld
namespace Go.Proofs.YtjgckphgagdpaaaGreatDoor.DeskFrame
open _root_.Go.Proofs.Tryz
open Go.ChangeShapes Go.WideShapes Go.ChangeAt Go.RowKit
set_option linter.unusedVariables false
set_option maxRecDepth 100000 in
theorem axe(os:Go.Os)(c:os.Started)(H:Type)(enc:TypeId × Value->H):
  ReturnsInHanded {} Tryz.checked os 3 .any (λw args=>(Rows.deskPlaysSpec.pre enc prog Tryz.f3 Rows.deskPlaysRow.domain false w args/\laidMetH prog Rows.deskPlaysRow.laid w)/\sizedMet enc prog Tryz.f3 (OpenSpec.ofChange Rows.deskPlaysSpec) false w args)
   (Rows.deskPlaysSpec.post enc prog Tryz.f3 false true false false):=by
 refine returnsInHanded_of_calls own c ko (ChangeSpec.witness_shaped (enc:=enc) (C:=Tryz.checked) (os:=os) (X:=λw _=>laidMetH prog Rows.deskPlaysRow.laid w) false (World.laidAll prog os Rows.deskPlaysRow.laid) #[.agg #[.slice none 0 0,.slice none 0 0],.string ⟨#[]⟩] 8 (World.laidAll_os _ _ _)
   (World.shaped_of_ZipB ko ko) ko ko ko
   (by rw[MakeChecks.laidMetH_plain _ _ _ ko];exact laidMet_laidAll _ ko ko)) ?_
 intro w tape i _ B _ A o _;obtain⟨_,_,_,t,j,_,_,_,_,a⟩:=A;obtain rfl:t=Tryz.f3:=Option.some.inj (j.symm.trans func3);obtain⟨⟨⟨s,L,ru,D,hc⟩,hx⟩,T⟩:=o;have y:=DataW.Whole.of_heap (w':=w.forCall tape i) (by rfl) D;have b:=T.weights D;have M:laidMetH prog Rows.deskPlaysRow.laid (w.forCall tape i):=hx.of_heap (by rfl);refine Calls.mono (R:=λe d=>∃v,e = .returned v/\Rows.deskPlaysSpec.post enc prog Tryz.f3 false true false false (w.forCall tape i) i.args v d) ?_ λe d ⟨v,he,hp⟩=>by subst he;exact ChangeSpec.post_blind hp
 generalize w.forCall tape i=W at *
 generalize i.args=args at *
 have z:=y;obtain⟨p,q,u,Q,rfl,ah,ai⟩:=y;have hA:DataW.TrodAll enc prog W 0 (λ_=>true) true Tryz.f3.params.toList args.toList s p:=u;have b:(DataW.weightsEach prog (Tryz.f3.params.toList++Rows.deskPlaysSpec.plain.varTypes prog) (s++L)).all (·<=reachBytes)=true:=b;rw[Tryz.params3] at hA a b;obtain⟨G,aj,d0,af,Y,q0,K,rfl,rfl,f,r0⟩:=trodAll_cons hA;obtain⟨J,ak,d1,ag,p1,q1,rfl,rfl,rfl,g,r1⟩:=trodAll_cons r0;obtain⟨rfl,rfl,rfl⟩:=trodAll_nil r1;obtain rfl:args=#[G,J]:=by cases args;simp_all
 obtain⟨rfl,rfl⟩:=trodVars_none Q;have E:∀x∈Y,x.block<W.heap.size:=by obtain⟨m,l⟩:=f;exact DataW.trod_lt m _ _ _ l
 have F:∀x∈p1,x.block<W.heap.size:=by obtain⟨m,l⟩:=g;exact DataW.trod_lt m _ _ _ l
 have U:=f;obtain⟨x0,rfl,r⟩:=arb (a 0 25 G rfl rfl) f;have V:=g;obtain⟨x1,rfl,k⟩:=ajg (a 1 9 J rfl rfl) g (λn S=>by
  have:=List.all_eq_true.1 b n (by simp[DataW.weightsEach,S])
  simpa using this)
 refine(Wq x0 x1 W r (aq6 M B) k).mono λe d ⟨he,bel⟩=> ?_;subst he;exact⟨_,rfl,_,_,_,[],_,[],z,trodAll_mk1 (shut_bool underlying4 _),(trodAll_cons_mk (Below.trod Uc ko (of_decide_eq_true ko) U bel E) (trodAll_cons_mk (Below.trod Uc ko (of_decide_eq_true ko) V bel F) trodAll_mk0)),rfl,bel.frame _,λh=>ix⟩
theorem over:Rows.DeskPlaysSaid :=
 OpenClaim.holds_of_wide 3 Tryz.f3 rfl rfl rfl rfl rfl rfl rfl ⟨rfl,rfl,rfl,rfl,rfl⟩ rfl rfl rfl rfl rfl ko func3 ko
  (of_decide_eq_true ko) (by unfold Func.isWrapper;first|(rw[if_pos (by decide +kernel)];kernel_rfl)|(rw[if_neg (by decide +kernel)];exact⟨rfl,rfl⟩))
  (λos a H enc _=>axe os a H enc)
end Go.Proofs.YtjgckphgagdpaaaGreatDoor.DeskFrame
namespace Go.Proofs.YtjgckphgagdpaaaGreatDoor
open _root_.Go.Proofs.Tryz
open Go
theorem DeskPlays_holds:Rows.DeskPlaysCardSaid :=
 Claim7.holds_tied_plain_at .later [] _ true _ true DeskFrame.over (λ_ h=>ix) ko (λ_ h=>ix) deskPlays_row_tie rfl ⟨rfl,rfl⟩ ko rfl
  (λf fn hf hfn=>by
   obtain rfl:f=3:=Option.some.inj ((show prog.funcNamed _=some 3 by kernel_rfl).symm.trans hf) |>.symm
   obtain rfl:fn=Tryz.f3:=(Option.some.inj (func3.symm.trans hfn)).symm;exact⟨ko,λj t ht=>by
    rw[Tryz.params3] at ht;have hm:t∈[25,9]:=by simpa using Array.mem_of_getElem? ht
    have hall:([25,9].all λu => !prog.wantsStandIn u)=true:=ko;exact(show prog.wantsStandIn t=false by simpa using List.all_eq_true.1 hall t hm)⟩)
  ko
#print axioms DeskPlays_holds
end Go.Proofs.YtjgckphgagdpaaaGreatDoor
