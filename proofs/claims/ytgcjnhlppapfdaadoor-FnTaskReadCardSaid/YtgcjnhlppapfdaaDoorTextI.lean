/- impl.TaskText and spec.TaskText -/
import Derived.Test.YtgcjnhlppapfdaaDoorAppT
import Derived.Test.YtgcjnhlppapfdaaDoorOk
import Derived.Test.YtgcjnhlppapfdaaDoorOkI
import Derived.Test.YtgcjnhlppapfdaaDoorLim
import Derived.Laws.IdiomStrings
namespace Go.Proofs.YtgcjnhlppapfdaaDoor
open Go.RowKit Go.Lib

theorem text_pos (t : T) : 0 < t.text.length := by
  obtain ⟨k, n, ps⟩ := t
  simp only [T.text]
  split
  · unfold dec; split <;> simp
  · split <;> simp <;> omega

theorem byt_string {w : World} {base : Nat} {v : Value} {bs : List UInt8} (h : Byt w base v bs) (hb : 0 < bs.length) : (convert 22 9 v).run Tryd.prog w = .ok (sv bs) w := by
  have hf : ∃ g cap, v = .slice (some ⟨g, 0, none⟩) bs.length cap := by
    rcases h.2 with ⟨_, h0⟩ | ⟨g, cap, _, hv, _⟩
    · omega
    · exact ⟨g, cap, hv⟩
  obtain ⟨g, cap, rfl⟩ := hf
  refine run_convert_bytes_back (P := Tryd.prog) w 22 9 5 ⟨g, 0, none⟩ cap bs Tryd.underlying22 Tryd.underlying5 Tryd.underlying9 (fun j hj => ?_)
  rw [add0, World.ownsRow.cellAt h j (by omega)]
  simp [bc, List.getElem?_eq_getElem hj]

/-- The text of a task, empty if it is none. -/
def T.txt (t : T) : List UInt8 := if t.ok = true then t.text else []

theorem implText_any (t : T) (w : World) (S : Nat → Prop) (a : Option Addr) (c : Nat) (hat : AtS w S t.ps a c) :
    Calls Tryd.prog 6 #[.agg #[.int .i64 t.k, .int .i64 t.n, .slice a t.ps.length c]] w fun e w' => e = .returned (sv t.txt) ∧ Below w.heap.size w w' := by
  have K0 := Lib.hid (Kp.start (ty := 25) hat)
  clear hat
  cases hv : t.ok
  · have HX := Lib.hid (show t.txt = [] by simp [T.txt, hv])
    have HV := Lib.hid hv
    clear hv
    go_enter Tryd.func6, Tryd.ntmps6
    go_wp2_with fail
    refine (implOk_any t _ S a c K0.out.2).mono ?_
    rintro e w1 ⟨rfl, hb⟩
    rw [HV.out]
    have K1 := Lib.hid (K0.out.step hb)
    clear hb K0
    go_wp2_with fail
    go_ret
    exact ⟨by rw [HX.out]; rfl, K1.out.done⟩
  · have HX := Lib.hid (show t.txt = t.text by simp [T.txt, hv])
    have HV := Lib.hid hv
    have hfn : t.fit = true ∧ t.nodes ≤ 15 := by simpa [T.ok] using hv
    have HFN := Lib.hid hfn
    clear hv hfn
    go_enter Tryd.func6, Tryd.ntmps6
    go_wp2_with fail
    refine (implOk_any t _ S a c K0.out.2).mono ?_
    rintro e w1 ⟨rfl, hb⟩
    rw [HV.out]
    have K1 := Lib.hid (K0.out.step hb)
    clear hb K0
    obtain ⟨x0, x1, x2⟩ := K1.out.box
    go_wp2_with fail
    refine (appT_all t w1 _ a c w1.heap.size (.slice none 0 0) [] K1.out.2.lim (fun b hb => hb.2) HFN.out.1 (Nat.le_trans HFN.out.2 (by decide)) (World.ownsRow_nil _ _ _ _) (by have := HFN.out.2; simp; omega) (Nat.le_refl _)).mono ?_
    rintro e w2 ⟨v', rfl, hown, hb, hkt⟩
    have hcv := byt_string hown (text_pos t)
    have K2 := Lib.hid (K1.out.step hb)
    clear hown hb hkt x0 x1 x2
    simp only [List.nil_append] at hcv
    go_wp2_with fail
    clear hcv
    go_ret
    exact ⟨by rw [HX.out]; rfl, K2.out.done⟩

theorem specText_any (t : T) (w : World) (S : Nat → Prop) (a : Option Addr) (c : Nat) (hat : AtS w S t.ps a c) (hle : nodesL t.ps ≤ 1048576) :
    Calls Tryd.prog 7 #[.agg #[.int .i64 t.k, .int .i64 t.n, .slice a t.ps.length c]] w fun e w' => e = .returned (sv t.txt) ∧ Below w.heap.size w w' := by
  have K0 := Lib.hid (Kp.start (ty := 25) hat)
  have HL := Lib.hid hle
  clear hat hle
  cases hv : t.ok
  · have HX := Lib.hid (show t.txt = [] by simp [T.txt, hv])
    have HV := Lib.hid hv
    clear hv
    go_enter Tryd.func7, Tryd.ntmps7
    go_wp2_with fail
    refine (specOk_any t _ S a c K0.out.2 HL.out).mono ?_
    rintro e w1 ⟨rfl, hb⟩
    rw [HV.out]
    have K1 := Lib.hid (K0.out.step hb)
    clear hb K0
    go_wp2_with fail
    go_ret
    exact ⟨by rw [HX.out]; rfl, K1.out.done⟩
  · have HX := Lib.hid (show t.txt = t.text by simp [T.txt, hv])
    have HV := Lib.hid hv
    have hfn : t.fit = true ∧ t.nodes ≤ 15 := by simpa [T.ok] using hv
    have HFN := Lib.hid hfn
    clear hv hfn
    go_enter Tryd.func7, Tryd.ntmps7
    go_wp2_with fail
    refine (specOk_any t _ S a c K0.out.2 HL.out).mono ?_
    rintro e w1 ⟨rfl, hb⟩
    rw [HV.out]
    have K1 := Lib.hid (K0.out.step hb)
    clear hb K0
    obtain ⟨x0, x1, x2⟩ := K1.out.box
    go_wp2_with fail
    refine (text_all t w1 _ a c K1.out.2 HFN.out.1 (Nat.le_trans HFN.out.2 (by decide))).mono ?_
    rintro e w2 ⟨rfl, hb⟩
    have K2 := Lib.hid (K1.out.step hb)
    clear hb x0 x1 x2
    go_wp2_with fail
    go_ret
    exact ⟨by rw [HX.out]; rfl, K2.out.done⟩
end Go.Proofs.YtgcjnhlppapfdaaDoor
