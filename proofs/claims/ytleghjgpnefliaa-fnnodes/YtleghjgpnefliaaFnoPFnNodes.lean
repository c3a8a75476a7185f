/-
  Proved: for every slice of bytes that can be read, the call FnNodes returns true, and its argument reads afterwards as it read before. No condition.
-/
import Derived.Test.YtleghjgpnefliaaFnoZ48
import Derived.Test.YtleghjgpnefliaaFnoZ2
import Derived.ChangeSlices
namespace Go.Proofs.Ytleghjgpnefliaa
open Go.ChangeShapes Go.WideShapes Go.ChangeAt Go.RowKit
set_option linter.unusedVariables false
set_option linter.unusedSimpArgs false
theorem Try.own:ownKnob Try.prog.godebug=none:=by kernel_rfl
theorem Try.laidOut:laidOutB Try.prog=true:=by kernel_rfl
theorem Try.cellsU8:Try.prog.cellsOf 5=1:=by kernel_rfl
theorem u8_wf {n:Int} (h:(Lit.int .u8 n).wf=true):0≤n∧n≤255:=by
 unfold Lit.wf at h
 rw [Bool.and_eq_true,decide_eq_true_eq,decide_eq_true_eq] at h
 have h1:IntKind.u8.min=0:=by decide
 have h2:IntKind.u8.max=255:=by decide
 rw [h1,h2] at h
 exact h
set_option maxRecDepth 100000 in
theorem fnNodes_lifted (os:Os) (started:os.Started) (H:Type) (enc:TypeId × Value->H) :
 ReturnsInHanded {} Try.checked os 4 .any (Rows.fnNodesSpec.pre6 enc Try.prog Try.f4 Rows.fnNodesRow.domain false) (Rows.fnNodesSpec.post enc Try.prog Try.f4 false true false false):=by
 refine returnsInHanded_of_change (C:=Try.checked) Try.own started (by kernel_rfl) Try.func4
  (ChangeSpec.witness6 (enc:=enc) (C:=Try.checked) false ⟨#[],#[.slice none 0 0],[]⟩ 8 (by kernel_rfl) (by kernel_rfl) (by kernel_rfl) (by kernel_rfl)) ?_
 intro W base args ds gs before hval0 hW hcnd _
 have hval:∀ (j:Nat) t v,Try.f4.params[j]?=some t->args[j]?=some v->Value.okWide Try.prog W .any base t v:=hval0
 have hW':=hW
 obtain⟨p,q,hA0,hV,rfl,hfz,hnd⟩:=hW
 have hA:DataW.TrodAll enc Try.prog W 0 (fun _=>true) true Try.f4.params.toList args.toList ds p:=hA0
 rw [Try.params4] at hA hval
 obtain⟨v0,vs0,d0,ds0,p0,q0,hargs,rfl,rfl,h0,r0⟩:=trodAll_cons hA
 obtain⟨rfl,rfl,rfl⟩:=trodAll_nil r0
 obtain rfl:args=#[v0]:=by cases args;simp_all
 obtain⟨rfl,rfl⟩:=trodVars_none hV
 have k0:=h0
 have lt0:∀ x∈p0,x.block<W.heap.size:=by obtain⟨m,hm⟩:=k0;exact DataW.trod_lt m _ _ _ hm
 obtain⟨a0,len,cap,rfl⟩:=okWide_slice Try.underlying22 (hval 0 22 v0 rfl rfl)
 obtain⟨fuel,hf⟩:=h0
 have hB:Bts W a0 len∧len≤9223372036854775807:=by
  rcases open_ints Try.underlying22 Try.underlying5 Try.cellsU8 hf with ⟨hcs,_⟩|⟨a,len',cap',zs,hcs,_,hle,hmx,hzl,_,hcell,hwf⟩
  · have e:len=0:=by simp [Value.cells] at hcs;exact hcs.2.1
    exact⟨fun j hj=>by omega,by omega⟩
  · have e:a0=some a∧len=len'∧cap=cap':=by simpa [Value.cells] using hcs
    obtain⟨rfl,rfl,rfl⟩:=e
    simp only [if_true] at hzl
    refine⟨fun j hj=>?_,by unfold maxLen at hmx;omega⟩
    obtain⟨b,o,e,hcc⟩:=Go.ints_at hcell (by omega)
    subst e
    have hc:=hcc j (by omega)
    have hw:=u8_wf (hwf (zs.getD j 0) (by rw [List.getD_eq_getElem?_getD,List.getElem?_eq_getElem (show j<zs.length by omega)];exact List.getElem_mem _))
    exact⟨b,o,_,rfl,World.block_lt_of_cell? _ _ hc,hc,hw⟩
 clear hA0 hval0
 refine (law_fnNodes a0 len cap W hB.1 hB.2).mono fun e W' ⟨he,bel⟩=>?_
 subst he
 exact⟨_,rfl,_,_,_,[],_,[],hW',trodAll_mk1 (shut_bool Try.underlying4 _),(trodAll_cons_mk (Below.trod Try.laidOut (by kernel_rfl) (of_decide_eq_true (by kernel_rfl)) k0 bel lt0) trodAll_mk0),rfl,bel.frame _,fun h=>by cases h⟩
theorem fnNodes_holds:Rows.FnNodesSaid :=
 OpenClaim.holds_of_wide 4 Try.f4 rfl rfl rfl rfl rfl rfl rfl ⟨rfl,rfl,rfl,rfl,rfl⟩ rfl rfl rfl rfl rfl (by kernel_rfl) Try.func4 (by kernel_rfl)
  (of_decide_eq_true (by kernel_rfl)) (by unfold Func.isWrapper;first|(rw [if_pos (by decide +kernel)];kernel_rfl)|(rw [if_neg (by decide +kernel)];exact⟨rfl,rfl⟩))
  (fun os started H enc _=>fnNodes_lifted os started H enc)
#print axioms fnNodes_holds
end Go.Proofs.Ytleghjgpnefliaa
