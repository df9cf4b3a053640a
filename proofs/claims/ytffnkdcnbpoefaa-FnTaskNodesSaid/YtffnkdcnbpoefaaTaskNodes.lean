/- For every code the law FnTaskNodes answers true: the nodes of a drawn task are those of its parts, and one more, and TaskNodes answers as its model. No condition. -/
import Derived.Test.YtffnkdcnbpoefaaRows
import Derived.Test.YtffnkdcnbpoefaaRowKit
import Derived.Test.YtffnkdcnbpoefaaLawDNodes
import Derived.ProofKit
namespace Go.Proofs.Ytffnkdcnbpoefaa
open Go.ChangeShapes Go.WideShapes Go.ChangeAt Go.RowKit Go.Joins

theorem cellsByte : Try.prog.cellsOf 5 = 1 := by kernel_rfl

theorem u8_of {v : Int} (h : (Lit.int .u8 v).wf = true) : 0 ≤ v ∧ v ≤ 255 := by
  have h1 : IntKind.u8.min = 0 := by decide
  have h2 : IntKind.u8.max = 255 := by decide
  simp [Lit.wf] at h
  omega

/-- A code that came in, opened. -/
theorem open_code {H : Type} {enc : TypeId × Value → H} {P : Program} {w : World} {spare : Nat → Bool} {held : Bool} {tS tE : TypeId} (hS : P.underlying tS = some (.slice tE)) (hE : P.underlying tE = some (.int .u8)) (hC : P.cellsOf tE = 1)
    {v : Value} {d : DataW H} {p : List MemPlace} (hv : ∃ a n c, v = .slice a n c) (h : DataW.Trod enc P w 0 spare held tS v d p) : ∃ a n c, v = .slice a n c ∧ CodeAt w a n c := by
  obtain ⟨a, n, c, rfl⟩ := hv
  obtain ⟨fuel, hf⟩ := h
  rcases open_ints hS hE hC hf with ⟨hcs, _⟩ | ⟨a', len', cap', zs, hcs, _, hl, hm, hz, _, hcell, hwz⟩
  · simp [Value.cells] at hcs
    obtain ⟨rfl, rfl, rfl⟩ := hcs
    exact ⟨none, 0, 0, rfl, by simp [CodeAt]⟩
  · simp [Value.cells] at hcs
    obtain ⟨rfl, rfl, rfl⟩ := hcs
    have hm' : c ≤ 9223372036854775807 := hm
    have hzl : n ≤ zs.length := by rw [hz]; split <;> omega
    by_cases h0 : n = 0
    · exact ⟨_, _, _, rfl, hl, hm', .inl h0⟩
    obtain ⟨b, o, rfl, hc⟩ := ints_at hcell (by omega)
    have hb : b < w.heap.size := cell_lt (by simpa using hc 0 (by omega))
    refine ⟨_, _, _, rfl, hl, hm', .inr ⟨b, o, rfl, hb, fun i hi => ?_⟩⟩
    have hw := u8_of (hwz (zs.getD i 0) (by rw [List.getD_eq_getElem?_getD, List.getElem?_eq_getElem (by omega)]; simp))
    exact ⟨zs.getD i 0, hw.1, hw.2, hc i (by omega)⟩

set_option maxRecDepth 100000 in
theorem taskNodes_lifted (os : Os) (started : os.Started) (H : Type) (enc : TypeId × Value → H) :
    ReturnsInHanded {} Try.checked os 3 .any (Rows.fnTaskNodesSpec.pre6 enc Try.prog Try.f3 Rows.fnTaskNodesRow.domain false) (Rows.fnTaskNodesSpec.post enc Try.prog Try.f3 false true false false) := by
  refine returnsInHanded_of_change (C := Try.checked) own started (by kernel_rfl) Try.func3
    (ChangeSpec.witness6 (enc := enc) (C := Try.checked) false ⟨#[], #[.slice none 0 0], []⟩ 8 (by kernel_rfl) (by kernel_rfl) (by kernel_rfl) (by kernel_rfl)) ?_
  intro W base args ds gs before hval0 hW _ _
  have hval : ∀ (j : Nat) t v, Try.f3.params[j]? = some t → args[j]? = some v → Value.okWide Try.prog W .any base t v := hval0
  have hW' := hW
  obtain ⟨p, q, hA0, hV, rfl, _, _⟩ := hW
  have hA : DataW.TrodAll enc Try.prog W 0 (fun _ => true) true Try.f3.params.toList args.toList ds p := hA0
  rw [Try.params3] at hA hval
  obtain ⟨v0, d0, rfl, rfl, h0⟩ := trodAll_one hA
  obtain ⟨rfl, rfl⟩ := trodVars_none hV
  obtain ⟨a, n, c, rfl, hcode⟩ := open_code Try.underlying22 Try.underlying5 cellsByte (okWide_slice Try.underlying22 (hval 0 22 v0 rfl rfl)) h0
  refine (walk_taskNodes W a n c hcode).mono fun e W' ⟨he, hb⟩ => ?_
  subst he
  exact ⟨_, rfl, law_post laidOut rfl rfl Try.underlying4 (by intro t ht; rw [Try.params3] at ht; simp at ht; subst ht; exact ⟨by kernel_rfl, of_decide_eq_true (by kernel_rfl)⟩) rfl rfl rfl hW' hb⟩

theorem taskNodes_holds : Rows.FnTaskNodesSaid :=
  OpenClaim.holds_of_wide 3 Try.f3 rfl rfl rfl rfl rfl rfl rfl ⟨rfl, rfl, rfl, rfl, rfl⟩ rfl rfl rfl rfl rfl (by kernel_rfl) Try.func3 (by kernel_rfl)
    (of_decide_eq_true (by kernel_rfl)) (by unfold Func.isWrapper; first | (rw [if_pos (by decide +kernel)]; kernel_rfl) | (rw [if_neg (by decide +kernel)]; exact ⟨rfl, rfl⟩))
    (fun os started H enc _ => taskNodes_lifted os started H enc)
#print axioms taskNodes_holds
end Go.Proofs.Ytffnkdcnbpoefaa
