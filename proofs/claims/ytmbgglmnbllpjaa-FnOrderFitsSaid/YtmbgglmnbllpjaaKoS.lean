/- spec.l4Once.key: where it begins, what it leaves; keys that are no matter -/
import Derived.Test.YtmbgglmnbllpjaaRsS
namespace Go.Proofs.Ytmbgglmnbllpjaa
open Go.RowKit

/-- The builder in block q: a sheet; values, what is done, what is under, each in memory of its own. -/
structure OnSt (w : World) (q B : Nat) (s : Sh) (a : Option Addr) (c : Nat) (a' : Option Addr) (c' : Nat) (vv dv uv : Value) (vl D U : List Int) : Prop where
  bd : Blk w q 118 #[.slice a s.m.length c, .slice a' s.t.length c', vv, dv, uv]
  v : NumRow w B vv vl
  d : NumRow w B dv D
  u : NumRow w B uv U
  nqv : ¬ vv.ownBlock = some q
  nqd : ¬ dv.ownBlock = some q
  nqu : ¬ uv.ownBlock = some q
  nvd : ∀ b, vv.ownBlock = some b → ¬ dv.ownBlock = some b
  nvu : ∀ b, vv.ownBlock = some b → ¬ uv.ownBlock = some b
  ndu : ∀ b, dv.ownBlock = some b → ¬ uv.ownBlock = some b

/-- What turns while keys are built. -/
def oB (q : Nat) (vv dv uv : Value) (b : Nat) : Prop := b = q ∨ vv.ownBlock = some b ∨ dv.ownBlock = some b ∨ uv.ownBlock = some b

section
variable {w w' : World} {q B : Nat} {s : Sh} {a : Option Addr} {c : Nat} {a' : Option Addr} {c' : Nat} {vv dv uv : Value} {vl D U : List Int}
theorem OnSt.fr {F : Nat → Prop} (h : OnSt w q B s a c a' c' vv dv uv vl D U) (hf : Fr F w w') (hF : ∀ b, F b → ¬ oB q vv dv uv b) : OnSt w' q B s a c a' c' vv dv uv vl D U where
  bd := h.bd.fr hf (fun hq => hF q hq (.inl rfl))
  v := num_fr h.v hf (fun g hg hb => hF g hb (.inr (.inl hg)))
  d := num_fr h.d hf (fun g hg hb => hF g hb (.inr (.inr (.inl hg))))
  u := num_fr h.u hf (fun g hg hb => hF g hb (.inr (.inr (.inr hg))))
  nqv := h.nqv
  nqd := h.nqd
  nqu := h.nqu
  nvd := h.nvd
  nvu := h.nvu
  ndu := h.ndu
theorem OnSt.below (h : OnSt w q B s a c a' c' vv dv uv vl D U) (hb : Below w.heap.size w w') : OnSt w' q B s a c a' c' vv dv uv vl D U :=
  h.fr (F := fun _ => False) (Fr.of_below hb) (fun _ h => h.elim)
theorem OnSt.alloc (h : OnSt w q B s a c a' c' vv dv uv vl D U) (o : Obj) : OnSt (w.alloc o) q B s a c a' c' vv dv uv vl D U := h.below ((Below.refl _ _).alloc (Nat.le_refl _) o)
theorem OnSt.lt (h : OnSt w q B s a c a' c' vv dv uv vl D U) : ∀ b, oB q vv dv uv b → b < w.heap.size := fun b hb => by
  rcases hb with rfl | hb | hb | hb
  · exact h.bd.lt
  · exact (World.ownsRow.lt h.v b hb).2
  · exact (World.ownsRow.lt h.d b hb).2
  · exact (World.ownsRow.lt h.u b hb).2
theorem OnSt.ge (h : OnSt w q B s a c a' c' vv dv uv vl D U) (hB : B ≤ q) : ∀ b, oB q vv dv uv b → B ≤ b := fun b hb => by
  rcases hb with rfl | hb | hb | hb
  · exact hB
  · exact (World.ownsRow.lt h.v b hb).1
  · exact (World.ownsRow.lt h.d b hb).1
  · exact (World.ownsRow.lt h.u b hb).1
/-- Another list of what is under: appended to, and stored. -/
theorem OnSt.setU {uv' : Value} {U' : List Int} (h : OnSt w q B s a c a' c' vv dv uv vl D U) (hf : Fr (fun b => uv.ownBlock = some b) w w') (hr : NumRow w' B uv' U') (hn : ∀ b, uv'.ownBlock = some b → uv.ownBlock = some b ∨ w.heap.size ≤ b) : OnSt (w'.setCell ⟨q, 4, none⟩ uv') q B s a c a' c' vv dv uv' vl D U' := by
  have hfq : Fr (fun b => b = q) w' (w'.setCell ⟨q, 4, none⟩ uv') := Fr.set' (D := fun b => b = q) (Fr.of_below (Below.refl _ _)) ⟨q, 4, none⟩ rfl _
  have hq : ∀ b, uv'.ownBlock = some b → b ≠ q := fun b hb e => by
    rcases hn b hb with h1 | h1
    · exact h.nqu (by rw [← e]; exact h1)
    · have := h.bd.lt; omega
  refine ⟨(h.bd.fr hf h.nqu).set_ 4 uv', num_fr (num_fr h.v hf (fun g hg => h.nvu g hg)) hfq (fun g hg e => h.nqv (by rw [← e]; exact hg)), num_fr (num_fr h.d hf (fun g hg => h.ndu g hg)) hfq (fun g hg e => h.nqd (by rw [← e]; exact hg)), num_fr hr hfq hq, h.nqv, h.nqd, fun e => hq q e rfl, h.nvd, fun b hb e => ?_, fun b hb e => ?_⟩
  · rcases hn b e with h1 | h1
    · exact h.nvu b hb h1
    · have := (World.ownsRow.lt h.v b hb).2; omega
  · rcases hn b e with h1 | h1
    · exact h.ndu b hb h1
    · have := (World.ownsRow.lt h.d b hb).2; omega
/-- Another list of what is done. -/
theorem OnSt.setD {dv' : Value} {D' : List Int} (h : OnSt w q B s a c a' c' vv dv uv vl D U) (hf : Fr (fun b => dv.ownBlock = some b) w w') (hr : NumRow w' B dv' D') (hn : ∀ b, dv'.ownBlock = some b → dv.ownBlock = some b ∨ w.heap.size ≤ b) : OnSt (w'.setCell ⟨q, 3, none⟩ dv') q B s a c a' c' vv dv' uv vl D' U := by
  have hfq : Fr (fun b => b = q) w' (w'.setCell ⟨q, 3, none⟩ dv') := Fr.set' (D := fun b => b = q) (Fr.of_below (Below.refl _ _)) ⟨q, 3, none⟩ rfl _
  have hq : ∀ b, dv'.ownBlock = some b → b ≠ q := fun b hb e => by
    rcases hn b hb with h1 | h1
    · exact h.nqd (by rw [← e]; exact h1)
    · have := h.bd.lt; omega
  refine ⟨(h.bd.fr hf h.nqd).set_ 3 dv', num_fr (num_fr h.v hf (fun g hg => h.nvd g hg)) hfq (fun g hg e => h.nqv (by rw [← e]; exact hg)), num_fr hr hfq hq, num_fr (num_fr h.u hf (fun g hg e => h.ndu g e hg)) hfq (fun g hg e => h.nqu (by rw [← e]; exact hg)), h.nqv, fun e => hq q e rfl, h.nqu, fun b hb e => ?_, h.nvu, fun b hb e => ?_⟩
  · rcases hn b e with h1 | h1
    · exact h.nvd b hb h1
    · have := (World.ownsRow.lt h.v b hb).2; omega
  · rcases hn b hb with h1 | h1
    · exact h.ndu b h1 e
    · have := (World.ownsRow.lt h.u b e).2; omega
/-- A value is set. -/
theorem OnSt.setV {g n cap : Nat} (h : OnSt w q B s a c a' c' (.slice (some ⟨g, 0, none⟩) n cap) dv uv vl D U) (i : Nat) (x : Int) : OnSt (w.setCell ⟨g, i, none⟩ (.int .i64 x)) q B s a c a' c' (.slice (some ⟨g, 0, none⟩) n cap) dv uv (vl.set i x) D U := by
  have hf : Fr (fun b => b = g) w (w.setCell ⟨g, i, none⟩ (.int .i64 x)) := Fr.set' (D := fun b => b = g) (Fr.of_below (Below.refl _ _)) ⟨g, i, none⟩ rfl _
  exact ⟨h.bd.fr hf (fun e => h.nqv (by rw [e]; rfl)), h.v.set_ i x, num_fr h.d hf (fun b hb e => h.nvd g rfl (by rw [← e]; exact hb)), num_fr h.u hf (fun b hb e => h.nvu g rfl (by rw [← e]; exact hb)), h.nqv, h.nqd, h.nqu, h.nvd, h.nvu, h.ndu⟩
end

/-- What is done so far: made keys, each once; they can be done, and have their values. -/
structure DOk (s : Sh) (l vl D : List Int) : Prop where
  md : ∀ x ∈ D, s.mdI x = true
  nod : D.Nodup
  hi : ∀ x, dnS s D x = true → okS s l x = true
  vals : ValsOk s l vl D

/-- What the building of a key leaves. -/
def KoPost (s : Sh) (l : List Int) (q B : Nat) (a : Option Addr) (c : Nat) (a' : Option Addr) (c' : Nat) (vv dv uv : Value) (D U : List Int) (k : Int) (w : World) (e : Ending) (w' : World) : Prop :=
  ∃ (dv' uv' : Value) (vl' D' : List Int) (x : Int) (b : Bool), e = .returned (.tuple #[.int .i64 x, .bool b]) ∧ OnSt w' q B s a c a' c' vv dv' uv' vl' D' U ∧ Fr (oB q vv dv uv) w w' ∧
    (∀ b, dv'.ownBlock = some b → dv.ownBlock = some b ∨ w.heap.size ≤ b) ∧ (∀ b, uv'.ownBlock = some b → uv.ownBlock = some b ∨ w.heap.size ≤ b) ∧
    ((b = true ∧ okS s l k = true ∧ x = vsS s l k ∧ DOk s l vl' D' ∧ dnS s D' k = true ∧ ∃ X, D' = D ++ X ∧ (∀ y ∈ X, rkV s.mdI s.tkI (vf l) y ≤ rkV s.mdI s.tkI (vf l) k) ∧ Visit emS (chS s l) (dnS s D) k X (dnS s D')) ∨ (b = false ∧ okS s l k = false))

/-- Where the building of a key begins. -/
structure KoPre (S : Nat → Prop) (s : Sh) (l : List Int) (q B : Nat) (a : Option Addr) (c : Nat) (a' : Option Addr) (c' : Nat) (vv dv uv : Value) (vl D U : List Int) (k : Int) (w : World) : Prop where
  inn : inOk s l = true
  sh : ShAt w S s a c a' c'
  lo : ∀ b, S b → b < B
  hB : B ≤ q
  st : OnSt w q B s a c a' c' vv dv uv vl D U
  dok : DOk s l vl D
  k0 : 0 ≤ k
  k9 : k ≤ 9
  hyp : Hyp (fun k => !s.mdI k) (okS s l) (rkV s.mdI s.tkI (vf l)) U k
  nod : U.Nodup

def KoT (S : Nat → Prop) (s : Sh) (l : List Int) (q B : Nat) (a : Option Addr) (c : Nat) (a' : Option Addr) (c' : Nat) (vv : Value) (r : Nat) : Prop :=
  ∀ (dv uv : Value) (vl D U : List Int) (k : Int) (w : World), U.length + r = s.m.length + 1 → KoPre S s l q B a c a' c' vv dv uv vl D U k w →
    Calls Try.prog 113 #[.pointer (some ⟨q, 0, none⟩), .int .i64 k] w (KoPost s l q B a c a' c' vv dv uv D U k w)

section
variable {S : Nat → Prop} {s : Sh} {l : List Int} {q B : Nat} {a : Option Addr} {c : Nat} {a' : Option Addr} {c' : Nat} {vv dv uv : Value} {vl D U : List Int} {k : Int} {w : World}

/-- Nothing has turned. -/
theorem KoPre.same (h : KoPre S s l q B a c a' c' vv dv uv vl D U k w) {x : Int} (hd : dnS s D k = true) (hv : x = vsS s l k) : KoPost s l q B a c a' c' vv dv uv D U k w (.returned (.tuple #[.int .i64 x, .bool true])) w :=
  ⟨dv, uv, vl, D, x, true, rfl, h.st, Fr.of_below (Below.refl _ _), fun _ hb => .inl hb, fun _ hb => .inl hb, .inl ⟨rfl, h.dok.hi k hd, hv, h.dok, hd, [], by simp, by simp, Visit.done hd⟩⟩

theorem ko_far (hp : KoPre S s l q B a c a' c' vv dv uv vl D U k w) (hk : (s.m.length : Int) ≤ k) :
    Calls Try.prog 113 #[.pointer (some ⟨q, 0, none⟩), .int .i64 k] w (KoPost s l q B a c a' c' vv dv uv D U k w) := by
  have H := Lib.hid hp
  obtain ⟨x0, x1, x2, x3, x4, _⟩ := Blk.five hp.st.bd
  obtain ⟨h1, h2, h3⟩ := inOk_of hp.inn
  have hmf : s.mdI k = false := by
    cases hx : s.mdI k
    · rfl
    · have := mdI_bd hx; omega
  have hlm : s.m.length ≤ 10 := (Sh.ok_iff.1 h1).1
  have k0 := hp.k0
  have k9 := hp.k9
  have HO := Lib.hid (show dnS s D k = true by unfold dnS; rw [hmf]; rfl)
  have HV := Lib.hid (show (0 : Int) = vsS s l k by rw [vsS_free h1 hmf, vf_far (by omega)])
  have hd : decide (((s.m.length : Nat) : Int) ≤ k) = true := decide_eq_true hk
  clear hp h1 h2 h3 hmf
  go_enter Try.func113, Try.ntmps113
  go_wp2_with fail
  go_ret2
  exact H.out.same HO.out HV.out

theorem KoPre.dLen (h : KoPre S s l q B a c a' c' vv dv uv vl D U k w) : D.length ≤ s.m.length := nodup_bound _ D h.dok.nod (fun x hx => mdI_bd (h.dok.md x hx))
theorem KoPre.undB (h : KoPre S s l q B a c a' c' vv dv uv vl D U k w) : ∀ u ∈ U, 0 ≤ u ∧ u < s.m.length := fun u hu => mdI_bd (by
  have := (h.hyp u hu).1
  simpa using this)
theorem KoPre.undL (h : KoPre S s l q B a c a' c' vv dv uv vl D U k w) : U.length ≤ s.m.length := nodup_bound _ U h.nod h.undB

set_option maxHeartbeats 1000000 in
theorem ko_in (hp : KoPre S s l q B a c a' c' vv dv uv vl D U k w) (hk : k < s.m.length) (hdn : dnS s D k = true) :
    Calls Try.prog 113 #[.pointer (some ⟨q, 0, none⟩), .int .i64 k] w (KoPost s l q B a c a' c' vv dv uv D U k w) := by
  have H := Lib.hid hp
  obtain ⟨x0, x1, x2, x3, x4, _⟩ := Blk.five hp.st.bd
  obtain ⟨h1, h2, h3⟩ := inOk_of hp.inn
  obtain ⟨kn, rfl⟩ : ∃ kn : Nat, k = kn := ⟨k.toNat, by have := hp.k0; omega⟩
  have hkn : kn < s.m.length := by omega
  have hlm : s.m.length ≤ 10 := (Sh.ok_iff.1 h1).1
  have hvl := hp.dok.vals
  have hkl : kn < vl.length := by rw [hvl.1]; omega
  have hv0 := hvl.2 (kn : Int) (by omega)
  rw [hdn, if_pos rfl, vf_in hkl] at hv0
  have hDb : ∀ x ∈ D, i64ok x := fun x hx => by have := mdI_bd (hp.dok.md x hx); unfold i64ok; omega
  obtain ⟨ad, cd, rfl, hid⟩ := hp.st.d.at hDb
  obtain ⟨gv, capv, rfl⟩ := own_some hp.st.v (by omega)
  obtain ⟨bm, om, ha, hbml, hcm⟩ := md_cell hp.sh hkn
  have hcv : w.cell? ⟨gv, kn, none⟩ = some (.int .i64 (vl[kn]'hkl)) := by
    have hc := World.ownsRow.cells hp.st.v (g := gv) rfl kn (.int .i64 (vl[kn]'hkl)) (by rw [List.getElem?_map, List.getElem?_eq_getElem hkl]; rfl)
    rwa [addr0] at hc
  obtain ⟨v, hv⟩ : ∃ v, v = vl[kn]'hkl := ⟨_, rfl⟩
  rw [← hv] at hcv hv0
  have HV := Lib.hid hv0
  have HD := Lib.hid hdn
  have HID := Lib.hid hid
  have HA := Lib.hid ha
  have hgl := (World.ownsRow.lt hp.st.v gv rfl).2
  obtain ⟨mk, hmk⟩ : ∃ mk, mk = s.mdI (kn : Int) := ⟨_, rfl⟩
  rw [← hmk] at hcm
  have HMK := Lib.hid hmk
  have hvlen : ∃ VL, VL = vl.length ∧ kn < VL := ⟨_, rfl, hkl⟩
  obtain ⟨VL, hVL, hkV⟩ := hvlen
  have HVL := Lib.hid hVL
  rw [← hVL] at x2
  clear hp h1 h2 h3 hdn hk hid ha hv hvl hv0 hmk hDb hVL hkl
  obtain rfl := HA.out
  cases mk
  · go_enter Try.func113, Try.ntmps113
    go_wp2_with fail
    go_ret2
    exact H.out.same HD.out HV.out
  · have hdd : decide ((kn : Int) ∈ D) = true := by
      have h := HD.out
      unfold dnS at h
      rw [← HMK.out] at h
      simpa using h
    have HDD := Lib.hid hdd
    clear hdd
    go_enter Try.func113, Try.ntmps113
    go_wp2_with fail
    refine (has_any w _ D ad cd (kn : Int) HID.out).mono ?_
    rintro e w1 ⟨rfl, rfl⟩
    rw [HDD.out]
    go_wp2_with fail
    go_ret2
    exact H.out.same HD.out HV.out

set_option maxHeartbeats 1000000 in
theorem ko_circ (hp : KoPre S s l q B a c a' c' vv dv uv vl D U k w) (hdn : dnS s D k = false) (hU : k ∈ U) :
    Calls Try.prog 113 #[.pointer (some ⟨q, 0, none⟩), .int .i64 k] w (KoPost s l q B a c a' c' vv dv uv D U k w) := by
  have H := Lib.hid hp
  obtain ⟨x0, x1, x2, x3, x4, _⟩ := Blk.five hp.st.bd
  obtain ⟨h1, h2, h3⟩ := inOk_of hp.inn
  have hlm : s.m.length ≤ 10 := (Sh.ok_iff.1 h1).1
  have hmk : s.mdI k = true := by
    unfold dnS at hdn
    rw [Bool.or_eq_false_iff] at hdn
    simpa using hdn.1
  have hkD : decide (k ∈ D) = false := by
    unfold dnS at hdn
    rw [Bool.or_eq_false_iff] at hdn
    exact hdn.2
  obtain ⟨kn, rfl⟩ : ∃ kn : Nat, k = kn := ⟨k.toNat, by have := hp.k0; omega⟩
  have hkn : kn < s.m.length := by have := (mdI_bd hmk).2; omega
  have hDb : ∀ x ∈ D, i64ok x := fun x hx => by have := mdI_bd (hp.dok.md x hx); unfold i64ok; omega
  have hUb : ∀ x ∈ U, i64ok x := fun x hx => by have := hp.undB x hx; unfold i64ok; omega
  obtain ⟨ad, cd, rfl, hid⟩ := hp.st.d.at hDb
  obtain ⟨au, cu, rfl, hiu⟩ := hp.st.u.at hUb
  obtain ⟨bm, om, ha, hbml, hcm⟩ := md_cell hp.sh hkn
  rw [hmk] at hcm
  have HNO := Lib.hid (hp.hyp.not hU)
  have HKD := Lib.hid hkD
  have HUU := Lib.hid (decide_eq_true hU)
  have HID := Lib.hid hid
  have HIU := Lib.hid hiu
  have HA := Lib.hid ha
  clear hp h1 h2 h3 hdn hid hiu ha hmk hDb hUb hkD hU
  obtain rfl := HA.out
  go_enter Try.func113, Try.ntmps113
  go_wp2_with fail
  refine (has_any w _ D ad cd (kn : Int) HID.out).mono ?_
  rintro e w1 ⟨rfl, rfl⟩
  rw [HKD.out]
  go_wp2_with fail
  refine (has_any w _ U au cu (kn : Int) HIU.out).mono ?_
  rintro e w1 ⟨rfl, rfl⟩
  rw [HUU.out]
  go_wp2_with fail
  go_ret2
  exact ⟨_, _, _, _, 0, false, rfl, H.out.st, Fr.of_below (Below.refl _ _), fun _ hb => .inl hb, fun _ hb => .inl hb, .inr ⟨rfl, HNO.out⟩⟩
end
end Go.Proofs.Ytmbgglmnbllpjaa
