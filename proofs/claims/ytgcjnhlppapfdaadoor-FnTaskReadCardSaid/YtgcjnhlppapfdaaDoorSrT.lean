/- spec.l1Rd.task: the leaves -/
import Derived.Test.YtgcjnhlppapfdaaDoorSrN
import Derived.Test.YtgcjnhlppapfdaaDoorDraw3
namespace Go.Proofs.YtgcjnhlppapfdaaDoor
open Go.RowKit Go.Lib

def TaskSPost (w : World) (g : Nat) (s : ByteArray) (p : Nat) (r : Option (T × Nat)) (e : Ending) (w' : World) : Prop :=
  Only g w w' ∧ ∃ (t : T) (a : Option Addr) (c : Nat), e = .returned (.agg #[.int .i64 t.k, .int .i64 t.n, .slice a t.ps.length c]) ∧ OwS w' 25 (fun b => w.heap.size ≤ b ∧ b < w'.heap.size) t.ps a c ∧ i64ok t.k ∧ i64ok t.n ∧ t.ps.length ≤ 3 ∧
    match r with
    | some (t0, j) => t = t0 ∧ SrAt w' g s j false ∧ j ≤ s.size ∧ p < j
    | none => ∃ q, q ≤ s.size ∧ SrAt w' g s q true

def TskS (f : Nat) : Prop := ∀ (w : World) (g p : Nat) (s : ByteArray), SrAt w g s p false → p ≤ s.size → s.size ≤ 1048576 → s.size < f + p →
  Calls Tryd.prog 22 #[.pointer (some ⟨g, 0, none⟩)] w (TaskSPost w g s p (taskS f s p))

theorem numS_pos {s : ByteArray} {i v d : Nat} (h : numS s i = some (v, d)) : 1 ≤ d := by
  unfold numS at h
  split at h
  · split at h
    · split at h
      · cases h
      · split at h <;> (simp only [Option.some.injEq, Prod.mk.injEq] at h; omega)
    · simp only [Option.some.injEq, Prod.mk.injEq] at h; omega
  · cases h

/-- A leaf of kind k, its number read at q. -/
def leafR (k q : Nat) (m : Option (Nat × Nat)) : Option (T × Nat) := m.map fun x => (.mk k x.1 [], q + x.2)

/-- A leaf that has been read. -/
theorem leafEnd {w w1 : World} {g p q : Nat} {s : ByteArray} {v k : Nat} {r : Option (T × Nat)} {m : Option (Nat × Nat)} (hgl : g < w.heap.size) (hk : k ≤ 5) (hv : v ≤ 999) (hpq : p ≤ q) (ho : Only g w w1)
    (hr : r = leafR k q m) (hm : ∀ u d, m = some (u, d) → u = v ∧ 1 ≤ d ∧ q + d ≤ s.size ∧ SrAt w1 g s (q + d) false) (hn : m = none → ∃ j, j ≤ s.size ∧ SrAt w1 g s j true) :
    TaskSPost w g s p r (.returned (.agg #[.int .i64 k, .int .i64 v, .slice none 0 0])) (set3 w1 w.heap.size (.int .i64 k) (.int .i64 v) (.slice none 0 0)) := by
  have hS : ∀ j b, SrAt w1 g s j b → SrAt (set3 w1 w.heap.size (.int .i64 k) (.int .i64 v) (.slice none 0 0)) g s j b := fun j b h => (set3_heap _ _ _ _ _ _ (by omega)).trans h
  refine ⟨ho.set3 (Nat.le_refl _) _ _ _, .mk k v [], none, 0, rfl, OwS.nil, by simp [T.k, i64ok]; omega, by simp [T.n, i64ok]; omega, by simp [T.ps], ?_⟩
  subst hr
  cases m with
  | none => obtain ⟨j, h1, h2⟩ := hn rfl; exact ⟨j, h1, hS _ _ h2⟩
  | some x =>
    obtain ⟨u, d⟩ := x
    obtain ⟨rfl, h1, h2, h3⟩ := hm u d rfl
    exact ⟨rfl, hS _ _ h3, h2, by omega⟩
theorem NumSPost.v {w w' : World} {g p : Nat} {s : ByteArray} {r : Option (Nat × Nat)} {e : Ending} (h : NumSPost w g s p r e w') (hr : r = numS s p) : Only g w w' ∧ ∃ v : Nat, e = .returned (.int .i64 v) ∧ v ≤ 999 ∧
    (∀ u d, r = some (u, d) → u = v ∧ 1 ≤ d ∧ p + d ≤ s.size ∧ SrAt w' g s (p + d) false) ∧ (r = none → ∃ j, j ≤ s.size ∧ SrAt w' g s j true) := by
  obtain ⟨ho, h⟩ := h
  cases r with
  | none => obtain ⟨⟨v, h1, h2⟩, h3⟩ := h; exact ⟨ho, v, h1, h2, fun _ _ h => (by cases h), fun _ => h3⟩
  | some x =>
    obtain ⟨u, d⟩ := x
    obtain ⟨h1, h2, h3, h4⟩ := h
    have hd := numS_pos hr.symm
    exact ⟨ho, u, h1, h4, fun u' d' e => by simp only [Option.some.injEq, Prod.mk.injEq] at e; obtain ⟨rfl, rfl⟩ := e; exact ⟨rfl, hd, h3, h2⟩, fun h => by cases h⟩

set_option maxRecDepth 100000 in
set_option maxHeartbeats 2000000 in
/-- What is fetched: 'k' and a number. -/
theorem task_k (f : Nat) (w : World) (g p : Nat) (s : ByteArray) (h : SrAt w g s p false) (hs : s.size ≤ 1048576) (hk : at_ s p = 107) :
    Calls Tryd.prog 22 #[.pointer (some ⟨g, 0, none⟩)] w (TaskSPost w g s p (taskS (f + 1) s p)) := by
  have hgl := h.lt
  have hlt := at_some hk (by decide)
  have HR := Lib.hid (show SrAt (w.alloc (.cells #[.int .i64 0, .int .i64 0, .slice none 0 0] 25)) g s p false from Blk.alloc h _)
  have HK := Lib.hid hk
  have HV := Lib.hid (show taskS (f + 1) s p = leafR 1 (p + 1) (numS s (p + 1)) by simp only [taskS]; rw [if_pos hk]; cases numS s (p + 1) <;> rfl)
  obtain ⟨r, hr⟩ : ∃ r, r = taskS (f + 1) s p := ⟨_, rfl⟩
  rw [← hr] at HV ⊢
  clear h hk hr
  go_enter Tryd.func22, Tryd.ntmps22
  go_wp2_with fail
  refine (next_yes _ g p s false 107 HR.out HK.out (by decide) hs).mono ?_
  rintro e w1 ⟨rfl, hrd, ho⟩
  have hsz := ho.size
  simp only [World.size_alloc] at hsz
  have HK1 := Lib.hid ((Blk.new w 25 #[.int .i64 0, .int .i64 0, .slice none 0 0]).only ho (by omega))
  have HO1 := Lib.hid (((Only.refl g w).alloc (.cells #[.int .i64 0, .int .i64 0, .slice none 0 0] 25)).trans ho)
  have HR1 := Lib.hid hrd
  clear hrd ho
  go_wp2_with fail
  refine (numberS_any _ g (p + 1) s HR1.out (by omega) hs).mono ?_
  intro e w2 hp
  obtain ⟨ho, v, rfl, hv, hm, hn⟩ := hp.v rfl
  have hsz2 := ho.size
  have hK2 := HK1.out.only ho (by omega)
  have HX := Lib.hid (And.intro (HO1.out.trans ho) (And.intro hm hn))
  obtain ⟨x0, x1, x2, f0, f1, f2⟩ := hK2.three
  clear ho hm hn hp HK1 HO1 HR1 hK2
  go_wp2_with fail
  refine bodyPost_ret (v := .agg #[.int .i64 1, .int .i64 v, .slice none 0 0]) (by simp [results, Tryd.results22, go_sem, x0, x1, x2]) rfl ?_
  exact leafEnd (k := 1) (q := p + 1) hgl (by decide) hv (by omega) HX.out.1 HV.out HX.out.2.1 HX.out.2.2
set_option maxRecDepth 100000 in
set_option maxHeartbeats 2000000 in
/-- A number. -/
theorem task_n (f : Nat) (w : World) (g p : Nat) (s : ByteArray) (h : SrAt w g s p false) (hs : s.size ≤ 1048576) (hp : p ≤ s.size) (hk : at_ s p ≠ 107) (hk4 : at_ s p ≠ 40) :
    Calls Tryd.prog 22 #[.pointer (some ⟨g, 0, none⟩)] w (TaskSPost w g s p (taskS (f + 1) s p)) := by
  have hgl := h.lt
  have HR := Lib.hid (show SrAt (w.alloc (.cells #[.int .i64 0, .int .i64 0, .slice none 0 0] 25)) g s p false from Blk.alloc h _)
  have HK := Lib.hid (And.intro hk hk4)
  have HV := Lib.hid (show taskS (f + 1) s p = leafR 0 p (numS s p) by simp only [taskS]; rw [if_neg hk, if_neg hk4]; cases numS s p <;> rfl)
  obtain ⟨r, hr⟩ : ∃ r, r = taskS (f + 1) s p := ⟨_, rfl⟩
  rw [← hr] at HV ⊢
  clear h hk hk4 hr
  go_enter Tryd.func22, Tryd.ntmps22
  go_wp2_with fail
  refine (next_no _ g p s false 107 HR.out HK.out.1 hp).mono ?_
  rintro e w1 ⟨rfl, hrd, ho⟩
  have hsz := ho.size
  simp only [World.size_alloc] at hsz
  have HK1 := Lib.hid ((Blk.new w 25 #[.int .i64 0, .int .i64 0, .slice none 0 0]).only ho (by omega))
  have HO1 := Lib.hid (((Only.refl g w).alloc (.cells #[.int .i64 0, .int .i64 0, .slice none 0 0] 25)).trans ho)
  have HR1 := Lib.hid hrd
  clear hrd ho
  go_wp2_with fail
  refine (next_no _ g p s false 40 HR1.out HK.out.2 hp).mono ?_
  rintro e w1' ⟨rfl, hrd, ho⟩
  have hsz' := ho.size
  have HK1' := Lib.hid (HK1.out.only ho (by omega))
  have HO1' := Lib.hid (HO1.out.trans ho)
  have HR1' := Lib.hid hrd
  clear hrd ho HK1 HO1 HR1
  go_wp2_with fail
  refine (numberS_any _ g p s HR1'.out hp hs).mono ?_
  intro e w2 hpp
  obtain ⟨ho, v, rfl, hv, hm, hn⟩ := hpp.v rfl
  clear hpp
  have hsz2 := ho.size
  have hK2 := HK1'.out.only ho (by omega)
  have HX := Lib.hid (And.intro (HO1'.out.trans ho) (And.intro hm hn))
  obtain ⟨x0, x1, x2, f0, f1, f2⟩ := hK2.three
  clear ho hm hn HK1' HO1' HR1' hK2
  go_wp2_with fail
  refine bodyPost_ret (v := .agg #[.int .i64 0, .int .i64 v, .slice none 0 0]) (by simp [results, Tryd.results22, go_sem, x0, x1, x2]) rfl ?_
  exact leafEnd (k := 0) (q := p) hgl (by decide) hv (by omega) HX.out.1 HV.out HX.out.2.1 HX.out.2.2
end Go.Proofs.YtgcjnhlppapfdaaDoor
