/- spec.TaskMay, impl.TaskMay -/
import Derived.Test.YtklmpagpkeffjaaMayI
import Derived.Laws.Rows
namespace Go.Proofs.Ytklmpagpkeffjaa
open Go.RowKit

theorem infoBool : (Try.prog.info? 4).map (fun i => (i.zero, i.size, i.bytes)) = some (some (.bool false), 1, 1) := by kernel_rfl

/-- The keys below i that a task may fetch, ascending. -/
def mayI (t : T) (i : Nat) : List Int := ((List.range i).filter fun (j : Nat) => t.may (j : Int)).map fun (j : Nat) => (j : Int)
theorem mayI_yes {t : T} {i : Nat} (h : t.may (i : Int) = true) : mayI t (i + 1) = mayI t i ++ [(i : Int)] := by
  unfold mayI
  rw [List.range_succ, List.filter_append]
  simp [h]
theorem mayI_no {t : T} {i : Nat} (h : t.may (i : Int) = false) : mayI t (i + 1) = mayI t i := by
  unfold mayI
  rw [List.range_succ, List.filter_append]
  simp [h]
theorem mayI_len (t : T) (i : Nat) : (mayI t i).length ≤ i := by
  unfold mayI
  rw [List.length_map]
  have := List.length_filter_le (fun (j : Nat) => t.may (j : Int)) (List.range i)
  simpa using this
theorem mayI_mem {t : T} {i : Nat} {q : Int} : q ∈ mayI t i ↔ 0 ≤ q ∧ q < i ∧ t.may q = true := by
  unfold mayI
  rw [List.mem_map]
  constructor
  · rintro ⟨j, hj, rfl⟩
    rw [List.mem_filter, List.mem_range] at hj
    exact ⟨by omega, by omega, hj.2⟩
  · rintro ⟨h0, h1, h2⟩
    obtain ⟨n, rfl⟩ : ∃ n : Nat, q = n := ⟨q.toNat, by omega⟩
    exact ⟨n, List.mem_filter.2 ⟨List.mem_range.2 (by omega), h2⟩, rfl⟩
def mayO (t : T) : List Int := if t.ok = true then mayI t 10 else []
def MyPost (t : T) (w : World) (e : Ending) (w' : World) : Prop := Below w.heap.size w w' ∧ ∃ v, e = .returned v ∧ NumRow w' w.heap.size v (mayO t)

theorem tru_made (w : World) : TruAt (w.alloc (.cells (madeCells #[.bool false] 10) 4)) w.heap.size 4 (fun _ => false) :=
  ⟨_, heap_alloc_new w _, by rw [size_madeCells], fun i hi => by rw [← Array.getElem?_toList, toList_madeCells_one, List.getElem?_replicate, if_pos hi]⟩
theorem TruAt.below {w w' : World} {g : Nat} {e : TypeId} {m : Nat → Bool} (h : TruAt w g e m) (hb : Below w.heap.size w w') : TruAt w' g e m := by
  obtain ⟨cs, h1, h2⟩ := h; exact ⟨cs, h1.below hb h1.lt, h2⟩

set_option maxRecDepth 100000 in
set_option maxHeartbeats 2000000 in
theorem specMay_any (t : T) (w : World) (S : Nat → Prop) (a : Option Addr) (c : Nat) (hat : AtS w S t.ps a c) (hle : nodesL t.ps ≤ 1048576) :
    Calls Try.prog 103 #[.agg #[.int .i64 t.k, .int .i64 t.n, .slice a t.ps.length c]] w (MyPost t w) := by
  have hki := (Kp.start (ty := 42) hat.lim).alloc (.cells #[] 3)
  have K0 := Lib.hid hki
  have hN := rowN_new (w.alloc (.cells #[.int .i64 t.k, .int .i64 t.n, .slice a t.ps.length c] 42))
  rw [World.size_alloc] at hN
  have HN0 := Lib.hid hN
  have HL := Lib.hid hle
  clear hat hle hki hN
  cases hv : t.ok
  · have hx : MyPost t w = fun e w' => Below w.heap.size w w' ∧ ∃ v, e = .returned v ∧ NumRow w' w.heap.size v [] := by unfold MyPost mayO; rw [hv, if_neg (by decide)]
    have HX := Lib.hid hx
    have HV := Lib.hid hv
    clear hv hx
    go_enter Try.func103, Try.ntmps103
    go_wp2_with fail
    refine (specOk_any t _ _ a c K0.out.2 HL.out).mono ?_
    rintro e w1 ⟨rfl, hb⟩
    rw [HV.out]
    have K1 := Lib.hid (K0.out.step hb)
    have HN1 := Lib.hid (World.ownsRow.kept (row := none) HN0.out ⟨hb.os, hb.tape, hb.output, hb.size, fun i hi _ => hb.block i hi⟩ (Classical.em _))
    clear hb K0
    go_wp2_with fail
    go_ret
    rw [HX.out]
    exact ⟨K1.out.done, _, rfl, ownsRow_low HN1.out (by omega)⟩
  · have hfn : t.fit = true ∧ t.nodes ≤ 15 := by simpa [T.ok] using hv
    have hx : MyPost t w = fun e w' => Below w.heap.size w w' ∧ ∃ v, e = .returned v ∧ NumRow w' w.heap.size v (mayI t 10) := by unfold MyPost mayO; rw [hv, if_pos rfl]
    have HX := Lib.hid hx
    have HFN := Lib.hid hfn
    have HV := Lib.hid hv
    obtain ⟨iN, ni, nz0, nz1, nz2⟩ := info_parts infoInt
    have HIN := Lib.hid (And.intro ni (And.intro nz0 (And.intro nz1 nz2)))
    obtain ⟨i0, hi, hz0, hz1, hz2⟩ := info_parts infoBool
    have hmk : ∀ W, (Instr.makeSlice 23 (.int .i64 10) (.int .i64 10)).run Try.prog W = .ok (.slice (some ⟨W.heap.size, 0, none⟩) 10 10) (W.alloc (.cells (madeCells #[.bool false] 10) 4)) := fun W => by
      have h := run_make_rowN (P := Try.prog) 23 4 i0 _ Try.underlying23 hi hz0 .i64 .i64 10 10 (Nat.le_refl _) (by rw [hz2]; omega) (by omega) W
      rw [hz1] at h
      exact h
    have HMK := Lib.hid hmk
    have hml : maxLen = 9223372036854775807 := rfl
    have HML := Lib.hid hml
    clear hv hx hfn ni nz0 nz1 nz2 hi hz0 hz1 hz2 hmk hml
    go_enter Try.func103, Try.ntmps103
    go_wp2_with fail
    refine (specOk_any t _ _ a c K0.out.2 HL.out).mono ?_
    rintro e w1 ⟨rfl, hb⟩
    rw [HV.out]
    have K1 := Lib.hid (K0.out.step hb)
    have HN1 := Lib.hid (World.ownsRow.kept (row := none) HN0.out ⟨hb.os, hb.tape, hb.output, hb.size, fun i hi _ => hb.block i hi⟩ (Classical.em _))
    have hs1 := hb.size
    simp only [World.size_alloc] at hs1
    have HT1 := Lib.hid (tru_made w1)
    have K2 := Lib.hid (K1.out.alloc (.cells (madeCells #[.bool false] 10) 4))
    have HN2 := Lib.hid (World.ownsRow.alloc HN1.out (.cells (madeCells #[.bool false] 10) 4))
    obtain ⟨x0, x1, x2⟩ := K1.out.box
    have hlt : w.heap.size < w1.heap.size := by omega
    have hmk := HMK.out
    clear hb K0 HN0
    go_wp2_with fail
    clear hmk x0 x1 x2
    refine (may_all t _ _ a c w1.heap.size _ K2.out.2 (fun b hb => by omega) HFN.out.1 HT1.out).mono ?_
    rintro e w2 ⟨rfl, htr, ho⟩
    have hs2 := ho.size
    simp only [World.size_alloc] at hs2
    have HT2 := Lib.hid htr
    have HB2 := Lib.hid (show Below w.heap.size w w2 from K2.out.done.trans ⟨ho.os, ho.tape, ho.output, ho.size, fun k hk => ho.block k (by simp; omega) (by intro e; injection e; omega)⟩)
    have HN3 := Lib.hid (World.ownsRow.kept HN2.out ho (.inr (by intro e; have h := (HN1.out.lt _ e).2; omega)))
    have hvg := own_ge HN3.out
    have HVG := Lib.hid hvg
    clear htr ho hvg K1 K2 HN1 HN2 HT1
    go_wp2_with fail
    go_loopw [3, 5] (fun v i wr => ∃ k : Nat, k ≤ 10 ∧ i = .int .i64 k ∧ NumRow wr (w.heap.size + 1) v (mayI t k) ∧ TruAt wr w1.heap.size 4 (fun i => t.may (i : Int)) ∧ Below w.heap.size w wr ∧ (∀ b, v.ownBlock = some b → b ≠ w1.heap.size)) (fun _ i _ => 10 - (intOf i).toNat)
    case atStart => exact ⟨0, by omega, rfl, HN3.out, HT2.out.congr (fun i _ => by simp), HB2.out, fun b hb => by simp [Value.ownBlock] at hb; omega⟩
    case round =>
      obtain ⟨k, hk, rfl, hn, htr, hb, hne⟩ := hrel
      have HN := Lib.hid hn
      have HT := Lib.hid htr
      have HB := Lib.hid hb
      have HNE := Lib.hid hne
      have hgl := htr.lt
      have hwr := hb.size
      clear hn htr hb hne HN3 HT2
      by_cases hlt : k < 10
      · obtain ⟨hcell, hfz⟩ := HT.out.cell hlt
        cases hmay : t.may (k : Int)
        · rw [hmay] at hcell
          have HMN := Lib.hid (mayI_no hmay)
          clear hmay
          go_wp2_with fail
          go_roundw
          case rel => exact ⟨k + 1, by omega, by go_num, by rw [HMN.out]; exact HN.out, HT.out, HB.out, HNE.out⟩
          case measure => simp [intOf]; omega
        · rw [hmay] at hcell
          have HMN := Lib.hid (mayI_yes hmay)
          have hml := mayI_len t k
          obtain ⟨acc, hacc⟩ : ∃ acc, acc = mayI t k := ⟨_, rfl⟩
          rw [← hacc] at HN HMN hml
          clear hmay hacc
          go_wp2_with (at_builtin; refine wpList_append_row _ rfl (.tmp 25) (.tmp 27) 30 rfl (w.heap.size + 1) 3 iN (.int .i64 0) 1 8 Try.underlying30 HIN.out.1 HIN.out.2.1 HIN.out.2.2.1 HIN.out.2.2.2 rfl (by decide) _ acc.length (acc.map (Value.int .i64)) rfl (World.ownsRow.alloc HN.out _) ⟨wr.heap.size, 0, none⟩ 1 1 [.int .i64 k] rfl rfl ?d1 ?d2 (by decide) ?d3 ?d4 ?d5 ?_)
          case d1 => exact news1 _ _ _
          case d2 => simp [Value.oneCell']
          case d3 => rw [HML.out]; omega
          case d4 => omega
          case d5 => simp; omega
          intro v2 w3 hown hgr hnew
          have hN2 : NumRow w3 (w.heap.size + 1) v2 (acc ++ [(k : Int)]) := by
            unfold NumRow
            rw [List.map_append, show (acc ++ [(k : Int)]).length = acc.length + 1 by simp]
            exact hown
          have hge := own_ge HN.out
          have hB2 : Below w.heap.size w w3 := (HB.out.alloc hwr _).trans (below_grown hgr (by simp; omega) (fun q hq => by have := hge q hq; omega))
          have hT2 : TruAt w3 w1.heap.size 4 (fun i => t.may (i : Int)) := by
            obtain ⟨cs, h1, h2⟩ := HT.out.alloc (.cells #[.int .i64 k] 3)
            exact ⟨cs, (hgr.block w1.heap.size (by simp; omega) (by intro e; exact HNE.out _ e.symm rfl)).trans h1, h2⟩
          have hG2 : ∀ b, v2.ownBlock = some b → b ≠ w1.heap.size := fun b hb => by
            rcases hnew b hb with h | h
            · exact HNE.out b h
            · omega
          have H2 := Lib.hid (And.intro hN2 (And.intro hT2 (And.intro hB2 hG2)))
          clear hown hgr hnew hN2 hge hB2 hT2 hG2
          go_wp2_with fail
          go_roundw
          case rel => exact ⟨k + 1, by omega, by go_num, by rw [HMN.out]; exact H2.out.1, H2.out.2.1, H2.out.2.2.1, H2.out.2.2.2⟩
          case measure => simp [intOf]; omega
      · obtain rfl : k = 10 := by omega
        go_wp2_with fail
        go_ret
        rw [HX.out]
        exact ⟨HB.out, _, rfl, ownsRow_low HN.out (by omega)⟩
end Go.Proofs.Ytklmpagpkeffjaa
