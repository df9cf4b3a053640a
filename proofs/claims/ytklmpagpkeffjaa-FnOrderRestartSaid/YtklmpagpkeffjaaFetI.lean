/- impl.TaskFetches, spec.TaskFetches -/
import Derived.Test.YtklmpagpkeffjaaNote
import Derived.Test.YtklmpagpkeffjaaFromS
namespace Go.Proofs.Ytklmpagpkeffjaa
open Go.RowKit

theorem noting_fetcher (S : Nat → Prop) (lv : List Int) (a : Option Addr) (c gv gf gn gl base : Nat) (hv : vok lv = true) : Fetcher 129 #[.pointer (some ⟨gf, 0, none⟩), .pointer (some ⟨gn, 0, none⟩)] (vf lv) (NoteI S lv a c gv gf gn gl base) where
  call := by
    intro ks D w k h0 h9 hk hI
    exact noting_any S lv a c gv gf gn gl base ks D w k h0 h9 hk hI
  below := by
    rintro ks D w w' ⟨hl, hv, hf, hn, ⟨b1, b2, b3, b4, b5, b6, b7, b8, b9⟩, vo, ho, hr, hD⟩ h
    exact ⟨hl.below h, hv.below h hv.lt, hf.below h hf.lt, hn.below h hn.lt, ⟨b1, b2, b3, b4, b5, b6, b7, b8, Nat.le_trans b9 h.size⟩, vo, ho.below h ho.lt,
      World.ownsRow.kept (row := none) hr ⟨h.os, h.tape, h.output, h.size, fun i hi _ => h.block i hi⟩ (Classical.em _), hD⟩
  bd := vf_bd (vok_mem hv).2
  lt := by
    rintro ks D w ⟨hl, hv, hf, hn, _, vo, ho, hr, hD⟩ b hb
    rcases (hD b).1 hb with rfl | h
    · exact ho.lt
    · exact (hr.lt b h).2
  enters := enters_of Try.func129 (by kernel_rfl) rfl

theorem noting_new (w : World) (f f' : FuncId) (cs cs' : Array Value) : Calls Try.prog 110 #[.func (.func f) #[] cs, .func (.func f') #[] cs'] w fun e w' => e = .returned (.func (.func 129) #[] #[.pointer (some ⟨w.heap.size, 0, none⟩), .pointer (some ⟨w.heap.size + 1, 0, none⟩)]) ∧ w' = (w.alloc (.cells #[.func (.func f) #[] cs] 126)).alloc (.cells #[.func (.func f') #[] cs'] 129) := by
  have hmf : ∀ (fn : Fn) (first cap : Array Value) (w : World), (Instr.makeFunc fn first cap).run Try.prog w = .ok (.func fn first cap) w := fun _ _ _ _ => rfl
  go_enter Try.func110, Try.ntmps110
  go_wp2_with fail
  go_ret
  exact ⟨rfl, rfl⟩

/-- What TaskFetches leaves. -/
def FetPost (t : T) (lv : List Int) (w : World) (e : Ending) (w' : World) : Prop :=
  Below w.heap.size w w' ∧ if (t.ok && vok lv) = true then ∃ vo, e = .returned (.tuple #[vo, .bool true]) ∧ FeRow (vf lv) w' w.heap.size vo (t.kys (vf lv)) else ∃ vo, e = .returned (.tuple #[vo, .bool false]) ∧ FeRow (vf lv) w' w.heap.size vo []

/-- The world in which reckon is called by TaskFetches. -/
def noteW (w : World) (s : Value) : World :=
  ((((w.alloc (.cells #[.slice none 0 0] 92)).alloc (.cells #[s] 30)).alloc (.cells #[.func (.func 130) #[] #[.pointer (some ⟨w.heap.size + 1, 0, none⟩)]] 126)).alloc
    (.cells #[.func (.func 112) #[] #[.pointer (some ⟨w.heap.size, 0, none⟩)]] 129)).drew
theorem noteW_size (w : World) (s : Value) : (noteW w s).heap.size = w.heap.size + 4 := by simp [noteW]
theorem noteW_below (w : World) (s : Value) : Below w.heap.size w (noteW w s) :=
  (((((Below.refl _ _).alloc (Nat.le_refl _) _).alloc (by simp) _).alloc (by simp; omega) _).alloc (by simp; omega) _).drew
theorem noteW_I (w : World) (S : Nat → Prop) (lv : List Int) (a : Option Addr) (c : Nat) (hl : IntsAt w S lv a c) (hS : ∀ b, S b → b < w.heap.size) :
    NoteI S lv a c (w.heap.size + 1) (w.heap.size + 2) (w.heap.size + 3) w.heap.size (w.heap.size + 4) [] (fun b => b = w.heap.size) (noteW w (.slice a lv.length c)) := by
  have h0 := (((Blk.new w 92 #[.slice none 0 0]).alloc (.cells #[.slice a lv.length c] 30)).alloc (.cells #[.func (.func 130) #[] #[.pointer (some ⟨w.heap.size + 1, 0, none⟩)]] 126)).alloc (.cells #[.func (.func 112) #[] #[.pointer (some ⟨w.heap.size, 0, none⟩)]] 129)
  have h1 := ((Blk.new (w.alloc (.cells #[.slice none 0 0] 92)) 30 #[.slice a lv.length c]).alloc (.cells #[.func (.func 130) #[] #[.pointer (some ⟨w.heap.size + 1, 0, none⟩)]] 126)).alloc (.cells #[.func (.func 112) #[] #[.pointer (some ⟨w.heap.size, 0, none⟩)]] 129)
  have h2 := (Blk.new ((w.alloc (.cells #[.slice none 0 0] 92)).alloc (.cells #[.slice a lv.length c] 30)) 126 #[.func (.func 130) #[] #[.pointer (some ⟨w.heap.size + 1, 0, none⟩)]]).alloc (.cells #[.func (.func 112) #[] #[.pointer (some ⟨w.heap.size, 0, none⟩)]] 129)
  have h3 := Blk.new (((w.alloc (.cells #[.slice none 0 0] 92)).alloc (.cells #[.slice a lv.length c] 30)).alloc (.cells #[.func (.func 130) #[] #[.pointer (some ⟨w.heap.size + 1, 0, none⟩)]] 126)) 129 #[.func (.func 112) #[] #[.pointer (some ⟨w.heap.size, 0, none⟩)]]
  simp only [World.size_alloc] at h1 h2 h3
  refine ⟨hl.below (noteW_below w _), h1, h2, h3, ⟨by omega, by omega, by omega, by omega, by omega, by omega, by omega, fun b hb => ⟨by have := hS b hb; omega, by have := hS b hb; omega⟩, by rw [noteW_size]; omega⟩, .slice none 0 0, h0, World.ownsRow_nil _ _ _ _, fun b => ?_⟩
  simp [Value.ownBlock]

set_option maxHeartbeats 2000000 in
theorem implFetches_any (t : T) (lv : List Int) (w : World) (S S' : Nat → Prop) (a a' : Option Addr) (c c' : Nat) (hat : AtS w S t.ps a c) (hl : IntsAt w S' lv a' c') :
    Calls Try.prog 76 #[.agg #[.int .i64 t.k, .int .i64 t.n, .slice a t.ps.length c], .slice a' lv.length c'] w (FetPost t lv w) := by
  have K0 := Lib.hid (Kp.start (ty := 42) hat.lim)
  have L0 := Lib.hid (hl.lim.alloc (.cells #[.int .i64 t.k, .int .i64 t.n, .slice a t.ps.length c] 42))
  clear hat hl
  cases hv : t.ok
  · have HV := Lib.hid hv
    have hx : FetPost t lv w = fun e w' => Below w.heap.size w w' ∧ ∃ vo, e = .returned (.tuple #[vo, .bool false]) ∧ FeRow (vf lv) w' w.heap.size vo [] := by unfold FetPost; simp [hv]
    have HX := Lib.hid hx
    clear hv hx
    go_enter Try.func76, Try.ntmps76
    go_wp2_with fail
    refine (implOk_any t _ _ a c K0.out.2).mono ?_
    rintro e w1 ⟨rfl, hb⟩
    rw [HV.out]
    have K1 := Lib.hid (K0.out.step hb)
    clear hb K0
    go_wp2_with fail
    go_ret2
    rw [HX.out]
    exact ⟨K1.out.done, _, rfl, World.ownsRow_nil _ _ _ _⟩
  cases hu : vok lv
  · have HV := Lib.hid hv
    have HU := Lib.hid hu
    have hx : FetPost t lv w = fun e w' => Below w.heap.size w w' ∧ ∃ vo, e = .returned (.tuple #[vo, .bool false]) ∧ FeRow (vf lv) w' w.heap.size vo [] := by unfold FetPost; simp [hu]
    have HX := Lib.hid hx
    clear hv hu hx
    go_enter Try.func76, Try.ntmps76
    go_wp2_with fail
    refine (implOk_any t _ _ a c K0.out.2).mono ?_
    rintro e w1 ⟨rfl, hb⟩
    rw [HV.out]
    have K1 := Lib.hid (K0.out.step hb)
    have L1 := Lib.hid (L0.out.below hb)
    clear hb K0 L0
    go_wp2_with fail
    refine (implVals_any _ _ lv a' c' L1.out).mono ?_
    rintro e w2 ⟨rfl, rfl⟩
    rw [HU.out]
    go_wp2_with fail
    go_ret2
    rw [HX.out]
    exact ⟨K1.out.done, _, rfl, World.ownsRow_nil _ _ _ _⟩
  · have HV := Lib.hid hv
    have HU := Lib.hid hu
    have hfn : t.fit = true ∧ t.nodes ≤ 15 := by simpa [T.ok] using hv
    have HFN := Lib.hid hfn
    have hx : FetPost t lv w = fun e w' => Below w.heap.size w w' ∧ ∃ vo, e = .returned (.tuple #[vo, .bool true]) ∧ FeRow (vf lv) w' w.heap.size vo (t.kys (vf lv)) := by unfold FetPost; simp [hv, hu]
    have HX := Lib.hid hx
    clear hv hu hx hfn
    have hmf : ∀ (fn : Fn) (first cap : Array Value) (w : World), (Instr.makeFunc fn first cap).run Try.prog w = .ok (.func fn first cap) w := fun _ _ _ _ => rfl
    go_enter Try.func76, Try.ntmps76
    go_wp2_with fail
    refine (implOk_any t _ _ a c K0.out.2).mono ?_
    rintro e w1 ⟨rfl, hb⟩
    rw [HV.out]
    have K1 := Lib.hid (K0.out.step hb)
    have L1 := Lib.hid (L0.out.below hb)
    clear hb K0 L0
    go_wp2_with fail
    refine (implVals_any _ _ lv a' c' L1.out).mono ?_
    rintro e w2 ⟨rfl, rfl⟩
    rw [HU.out]
    have hsz := K1.out.1.size
    simp only [World.size_alloc] at hsz
    obtain ⟨x0, x1, x2⟩ := K1.out.box
    go_wp2_with fail
    have hn15 := HFN.out.2
    have hlt : w.heap.size < w1.heap.size := by omega
    have hltn : w.heap.size ≠ w1.heap.size := by omega
    have hlt1 : w.heap.size < w1.heap.size + 1 := by omega
    have hltn1 : w.heap.size ≠ w1.heap.size + 1 := by omega
    have hlt2 : w.heap.size < w1.heap.size + 1 + 1 := by omega
    have hltn2 : w.heap.size ≠ w1.heap.size + 1 + 1 := by omega
    have hlt3 : w.heap.size < w1.heap.size + 1 + 1 + 1 := by omega
    have hltn3 : w.heap.size ≠ w1.heap.size + 1 + 1 + 1 := by omega
    have HNI := Lib.hid (noteW_I w1 _ lv a' c' L1.out (fun b hb => by omega))
    have HNA := Lib.hid (K1.out.2.below (noteW_below w1 (.slice a' lv.length c')))
    have HNS := Lib.hid (noteW_size w1 (.slice a' lv.length c'))
    have HNB := Lib.hid (noteW_below w1 (.slice a' lv.length c'))
    go_region_with (first | (go_at_call 111; refine (fetchFrom_any _ _ _ _).mono ?_; rintro e w3 ⟨rfl, rfl⟩) | (go_at_call 110; refine (noting_new _ _ _ _ _).mono ?_; rintro e w4 ⟨rfl, rfl⟩) | (go_at_call 105; refine (reck_all (noting_fetcher _ lv a' c' (w1.heap.size + 1) (w1.heap.size + 2) (w1.heap.size + 3) w1.heap.size (w1.heap.size + 4) HU.out) t (noteW w1 (.slice a' lv.length c')) _ a c [] (fun b => b = w1.heap.size) HFN.out.1 HNA.out (fun b hb => ⟨by rw [HNS.out]; omega, by omega⟩) HNI.out (by simp; omega)).mono ?_; rintro e w5 ⟨rfl, D', hI, hfr, hd⟩))
    all_goals
      obtain ⟨_, _, _, _, _, vo, ho, hr, hD⟩ := hI
      have hx0 : w5.cell? ⟨w1.heap.size, 0, none⟩ = some vo := ho.cell 0
      have hb5 : Below w.heap.size w w5 := K1.out.done.trans ((HNB.out.mono (by omega)).trans ⟨hfr.1, hfr.2.1, hfr.2.2.1, hfr.2.2.2.1, fun b hb => hfr.2.2.2.2 b (by rw [HNS.out]; omega) (by omega)⟩)
      have H5 := Lib.hid (And.intro hb5 (ownsRow_low hr (b' := w.heap.size) (by omega)))
      clear ho hr hD hfr hd hb5 x0 x1 x2 hlt hltn hlt1 hltn1 hlt2 hltn2 hlt3 hltn3
      go_wp2_with fail
      go_ret2
      rw [HX.out]
      exact ⟨H5.out.1, vo, rfl, by have h := H5.out.2; rw [List.nil_append] at h; exact h⟩

end Go.Proofs.Ytklmpagpkeffjaa
