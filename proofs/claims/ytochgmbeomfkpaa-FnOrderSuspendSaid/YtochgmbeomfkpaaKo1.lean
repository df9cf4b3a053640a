/- several texts in one: KoS, KoM, SuS -/
import Derived.Test.YtochgmbeomfkpaaRs1
import Derived.Deep.RegionWith
import Derived.Deep.RegionLaw
/- spec.l4Once.key: where it begins, what it leaves; keys that are no matter -/
namespace Go.Proofs.Ytochgmbeomfkpaa
open Go.RowKit

/-- The builder in block q: a sheet; values, what is done, what is under, each in memory of its own. -/
structure OnSt (w : World) (q B : Nat) (s : Sh) (a : Option Addr) (c : Nat) (a' : Option Addr) (c' : Nat) (vv dv uv : Value) (vl D U : List Int) : Prop where
  bd : Blk w q 85 #[.slice a s.m.length c, .slice a' s.t.length c', vv, dv, uv]
  v : NumRow w B vv vl
  d : NumRow w B dv D
  u : NumRow w B uv U
  nqv : ¬ vv.ownBlock = some q
  nqd : ¬ dv.ownBlock = some q
  nqu : ¬ uv.ownBlock = some q
  nvd : ∀ b, vv.ownBlock = some b → ¬ dv.ownBlock = some b
  nvu : ∀ b, vv.ownBlock = some b → ¬ uv.ownBlock = some b
  ndu : ∀ b, dv.ownBlock = some b → ¬ uv.ownBlock = some b

/-- What turns while keys are built. -/
def oB (q : Nat) (vv dv uv : Value) (b : Nat) : Prop := b = q ∨ vv.ownBlock = some b ∨ dv.ownBlock = some b ∨ uv.ownBlock = some b

section
variable {w w' : World} {q B : Nat} {s : Sh} {a : Option Addr} {c : Nat} {a' : Option Addr} {c' : Nat} {vv dv uv : Value} {vl D U : List Int}
theorem OnSt.fr {F : Nat → Prop} (h : OnSt w q B s a c a' c' vv dv uv vl D U) (hf : Fr F w w') (hF : ∀ b, F b → ¬ oB q vv dv uv b) : OnSt w' q B s a c a' c' vv dv uv vl D U where
  bd := h.bd.fr hf (fun hq => hF q hq (.inl rfl))
  v := num_fr h.v hf (fun g hg hb => hF g hb (.inr (.inl hg)))
  d := num_fr h.d hf (fun g hg hb => hF g hb (.inr (.inr (.inl hg))))
  u := num_fr h.u hf (fun g hg hb => hF g hb (.inr (.inr (.inr hg))))
  nqv := h.nqv
  nqd := h.nqd
  nqu := h.nqu
  nvd := h.nvd
  nvu := h.nvu
  ndu := h.ndu
theorem OnSt.below (h : OnSt w q B s a c a' c' vv dv uv vl D U) (hb : Below w.heap.size w w') : OnSt w' q B s a c a' c' vv dv uv vl D U :=
  h.fr (F := fun _ => False) (Fr.of_below hb) (fun _ h => h.elim)
theorem OnSt.alloc (h : OnSt w q B s a c a' c' vv dv uv vl D U) (o : Obj) : OnSt (w.alloc o) q B s a c a' c' vv dv uv vl D U := h.below ((Below.refl _ _).alloc (Nat.le_refl _) o)
theorem OnSt.lt (h : OnSt w q B s a c a' c' vv dv uv vl D U) : ∀ b, oB q vv dv uv b → b < w.heap.size := fun b hb => by
  rcases hb with rfl | hb | hb | hb
  · exact h.bd.lt
  · exact (World.ownsRow.lt h.v b hb).2
  · exact (World.ownsRow.lt h.d b hb).2
  · exact (World.ownsRow.lt h.u b hb).2
theorem OnSt.ge (h : OnSt w q B s a c a' c' vv dv uv vl D U) (hB : B ≤ q) : ∀ b, oB q vv dv uv b → B ≤ b := fun b hb => by
  rcases hb with rfl | hb | hb | hb
  · exact hB
  · exact (World.ownsRow.lt h.v b hb).1
  · exact (World.ownsRow.lt h.d b hb).1
  · exact (World.ownsRow.lt h.u b hb).1
/-- Another list of what is under: appended to, and stored. -/
theorem OnSt.setU {uv' : Value} {U' : List Int} (h : OnSt w q B s a c a' c' vv dv uv vl D U) (hf : Fr (fun b => uv.ownBlock = some b) w w') (hr : NumRow w' B uv' U') (hn : ∀ b, uv'.ownBlock = some b → uv.ownBlock = some b ∨ w.heap.size ≤ b) : OnSt (w'.setCell ⟨q, 4, none⟩ uv') q B s a c a' c' vv dv uv' vl D U' := by
  have hfq : Fr (fun b => b = q) w' (w'.setCell ⟨q, 4, none⟩ uv') := Fr.set' (D := fun b => b = q) (Fr.of_below (Below.refl _ _)) ⟨q, 4, none⟩ rfl _
  have hq : ∀ b, uv'.ownBlock = some b → b ≠ q := fun b hb e => by
    rcases hn b hb with h1 | h1
    · exact h.nqu (by rw [← e]; exact h1)
    · have := h.bd.lt; omega
  refine ⟨(h.bd.fr hf h.nqu).set_ 4 uv', num_fr (num_fr h.v hf (fun g hg => h.nvu g hg)) hfq (fun g hg e => h.nqv (by rw [← e]; exact hg)), num_fr (num_fr h.d hf (fun g hg => h.ndu g hg)) hfq (fun g hg e => h.nqd (by rw [← e]; exact hg)), num_fr hr hfq hq, h.nqv, h.nqd, fun e => hq q e rfl, h.nvd, fun b hb e => ?_, fun b hb e => ?_⟩
  · rcases hn b e with h1 | h1
    · exact h.nvu b hb h1
    · have := (World.ownsRow.lt h.v b hb).2; omega
  · rcases hn b e with h1 | h1
    · exact h.ndu b hb h1
    · have := (World.ownsRow.lt h.d b hb).2; omega
/-- Another list of what is done. -/
theorem OnSt.setD {dv' : Value} {D' : List Int} (h : OnSt w q B s a c a' c' vv dv uv vl D U) (hf : Fr (fun b => dv.ownBlock = some b) w w') (hr : NumRow w' B dv' D') (hn : ∀ b, dv'.ownBlock = some b → dv.ownBlock = some b ∨ w.heap.size ≤ b) : OnSt (w'.setCell ⟨q, 3, none⟩ dv') q B s a c a' c' vv dv' uv vl D' U := by
  have hfq : Fr (fun b => b = q) w' (w'.setCell ⟨q, 3, none⟩ dv') := Fr.set' (D := fun b => b = q) (Fr.of_below (Below.refl _ _)) ⟨q, 3, none⟩ rfl _
  have hq : ∀ b, dv'.ownBlock = some b → b ≠ q := fun b hb e => by
    rcases hn b hb with h1 | h1
    · exact h.nqd (by rw [← e]; exact h1)
    · have := h.bd.lt; omega
  refine ⟨(h.bd.fr hf h.nqd).set_ 3 dv', num_fr (num_fr h.v hf (fun g hg => h.nvd g hg)) hfq (fun g hg e => h.nqv (by rw [← e]; exact hg)), num_fr hr hfq hq, num_fr (num_fr h.u hf (fun g hg e => h.ndu g e hg)) hfq (fun g hg e => h.nqu (by rw [← e]; exact hg)), h.nqv, fun e => hq q e rfl, h.nqu, fun b hb e => ?_, h.nvu, fun b hb e => ?_⟩
  · rcases hn b e with h1 | h1
    · exact h.nvd b hb h1
    · have := (World.ownsRow.lt h.v b hb).2; omega
  · rcases hn b hb with h1 | h1
    · exact h.ndu b h1 e
    · have := (World.ownsRow.lt h.u b e).2; omega
/-- A value is set. -/
theorem OnSt.setV {g n cap : Nat} (h : OnSt w q B s a c a' c' (.slice (some ⟨g, 0, none⟩) n cap) dv uv vl D U) (i : Nat) (x : Int) : OnSt (w.setCell ⟨g, i, none⟩ (.int .i64 x)) q B s a c a' c' (.slice (some ⟨g, 0, none⟩) n cap) dv uv (vl.set i x) D U := by
  have hf : Fr (fun b => b = g) w (w.setCell ⟨g, i, none⟩ (.int .i64 x)) := Fr.set' (D := fun b => b = g) (Fr.of_below (Below.refl _ _)) ⟨g, i, none⟩ rfl _
  exact ⟨h.bd.fr hf (fun e => h.nqv (by rw [e]; rfl)), h.v.set_ i x, num_fr h.d hf (fun b hb e => h.nvd g rfl (by rw [← e]; exact hb)), num_fr h.u hf (fun b hb e => h.nvu g rfl (by rw [← e]; exact hb)), h.nqv, h.nqd, h.nqu, h.nvd, h.nvu, h.ndu⟩
end

/-- What is done so far: made keys, each once; they can be done, and have their values. -/
structure DOk (s : Sh) (l vl D : List Int) : Prop where
  md : ∀ x ∈ D, s.mdI x = true
  nod : D.Nodup
  hi : ∀ x, dnS s D x = true → okS s l x = true
  vals : ValsOk s l vl D

/-- What the building of a key leaves. -/
def KoPost (s : Sh) (l : List Int) (q B : Nat) (a : Option Addr) (c : Nat) (a' : Option Addr) (c' : Nat) (vv dv uv : Value) (D U : List Int) (k : Int) (w : World) (e : Ending) (w' : World) : Prop :=
  ∃ (dv' uv' : Value) (vl' D' : List Int) (x : Int) (b : Bool), e = .returned (.tuple #[.int .i64 x, .bool b]) ∧ OnSt w' q B s a c a' c' vv dv' uv' vl' D' U ∧ Fr (oB q vv dv uv) w w' ∧
    (∀ b, dv'.ownBlock = some b → dv.ownBlock = some b ∨ w.heap.size ≤ b) ∧ (∀ b, uv'.ownBlock = some b → uv.ownBlock = some b ∨ w.heap.size ≤ b) ∧
    ((b = true ∧ okS s l k = true ∧ x = vsS s l k ∧ DOk s l vl' D' ∧ dnS s D' k = true ∧ ∃ X, D' = D ++ X ∧ (∀ y ∈ X, rkV s.mdI s.tkI (vf l) y ≤ rkV s.mdI s.tkI (vf l) k) ∧ Visit emS (chS s l) (dnS s D) k X (dnS s D')) ∨ (b = false ∧ okS s l k = false))

/-- Where the building of a key begins. -/
structure KoPre (S : Nat → Prop) (s : Sh) (l : List Int) (q B : Nat) (a : Option Addr) (c : Nat) (a' : Option Addr) (c' : Nat) (vv dv uv : Value) (vl D U : List Int) (k : Int) (w : World) : Prop where
  inn : inOk s l = true
  sh : ShAt w S s a c a' c'
  lo : ∀ b, S b → b < B
  hB : B ≤ q
  st : OnSt w q B s a c a' c' vv dv uv vl D U
  dok : DOk s l vl D
  k0 : 0 ≤ k
  k9 : k ≤ 9
  hyp : Hyp (fun k => !s.mdI k) (okS s l) (rkV s.mdI s.tkI (vf l)) U k
  nod : U.Nodup

def KoT (S : Nat → Prop) (s : Sh) (l : List Int) (q B : Nat) (a : Option Addr) (c : Nat) (a' : Option Addr) (c' : Nat) (vv : Value) (r : Nat) : Prop :=
  ∀ (dv uv : Value) (vl D U : List Int) (k : Int) (w : World), U.length + r = s.m.length + 1 → KoPre S s l q B a c a' c' vv dv uv vl D U k w →
    Calls Try.prog 56 #[.pointer (some ⟨q, 0, none⟩), .int .i64 k] w (KoPost s l q B a c a' c' vv dv uv D U k w)

section
variable {S : Nat → Prop} {s : Sh} {l : List Int} {q B : Nat} {a : Option Addr} {c : Nat} {a' : Option Addr} {c' : Nat} {vv dv uv : Value} {vl D U : List Int} {k : Int} {w : World}

/-- Nothing has turned. -/
theorem KoPre.same (h : KoPre S s l q B a c a' c' vv dv uv vl D U k w) {x : Int} (hd : dnS s D k = true) (hv : x = vsS s l k) : KoPost s l q B a c a' c' vv dv uv D U k w (.returned (.tuple #[.int .i64 x, .bool true])) w :=
  ⟨dv, uv, vl, D, x, true, rfl, h.st, Fr.of_below (Below.refl _ _), fun _ hb => .inl hb, fun _ hb => .inl hb, .inl ⟨rfl, h.dok.hi k hd, hv, h.dok, hd, [], by simp, by simp, Visit.done hd⟩⟩

theorem ko_far (hp : KoPre S s l q B a c a' c' vv dv uv vl D U k w) (hk : (s.m.length : Int) ≤ k) :
    Calls Try.prog 56 #[.pointer (some ⟨q, 0, none⟩), .int .i64 k] w (KoPost s l q B a c a' c' vv dv uv D U k w) := by
  have H := Lib.hid hp
  obtain ⟨x0, x1, x2, x3, x4, _⟩ := Blk.five hp.st.bd
  obtain ⟨h1, h2, h3⟩ := inOk_of hp.inn
  have hmf : s.mdI k = false := by
    cases hx : s.mdI k
    · rfl
    · have := mdI_bd hx; omega
  have hlm : s.m.length ≤ 10 := (Sh.ok_iff.1 h1).1
  have k0 := hp.k0
  have k9 := hp.k9
  have HO := Lib.hid (show dnS s D k = true by unfold dnS; rw [hmf]; rfl)
  have HV := Lib.hid (show (0 : Int) = vsS s l k by rw [vsS_free h1 hmf, vf_far (by omega)])
  have hd : decide (((s.m.length : Nat) : Int) ≤ k) = true := decide_eq_true hk
  clear hp h1 h2 h3 hmf
  go_enter Try.func56, Try.ntmps56
  go_wp2_with fail
  go_ret2
  exact H.out.same HO.out HV.out

theorem KoPre.dLen (h : KoPre S s l q B a c a' c' vv dv uv vl D U k w) : D.length ≤ s.m.length := nodup_bound _ D h.dok.nod (fun x hx => mdI_bd (h.dok.md x hx))
theorem KoPre.undB (h : KoPre S s l q B a c a' c' vv dv uv vl D U k w) : ∀ u ∈ U, 0 ≤ u ∧ u < s.m.length := fun u hu => mdI_bd (by
  have := (h.hyp u hu).1
  simpa using this)
theorem KoPre.undL (h : KoPre S s l q B a c a' c' vv dv uv vl D U k w) : U.length ≤ s.m.length := nodup_bound _ U h.nod h.undB

set_option maxHeartbeats 1000000 in
theorem ko_in (hp : KoPre S s l q B a c a' c' vv dv uv vl D U k w) (hk : k < s.m.length) (hdn : dnS s D k = true) :
    Calls Try.prog 56 #[.pointer (some ⟨q, 0, none⟩), .int .i64 k] w (KoPost s l q B a c a' c' vv dv uv D U k w) := by
  have H := Lib.hid hp
  obtain ⟨x0, x1, x2, x3, x4, _⟩ := Blk.five hp.st.bd
  obtain ⟨h1, h2, h3⟩ := inOk_of hp.inn
  obtain ⟨kn, rfl⟩ : ∃ kn : Nat, k = kn := ⟨k.toNat, by have := hp.k0; omega⟩
  have hkn : kn < s.m.length := by omega
  have hlm : s.m.length ≤ 10 := (Sh.ok_iff.1 h1).1
  have hvl := hp.dok.vals
  have hkl : kn < vl.length := by rw [hvl.1]; omega
  have hv0 := hvl.2 (kn : Int) (by omega)
  rw [hdn, if_pos rfl, vf_in hkl] at hv0
  have hDb : ∀ x ∈ D, i64ok x := fun x hx => by have := mdI_bd (hp.dok.md x hx); unfold i64ok; omega
  obtain ⟨ad, cd, rfl, hid⟩ := hp.st.d.at hDb
  obtain ⟨gv, capv, rfl⟩ := own_some hp.st.v (by omega)
  obtain ⟨bm, om, ha, hbml, hcm⟩ := md_cell hp.sh hkn
  have hcv : w.cell? ⟨gv, kn, none⟩ = some (.int .i64 (vl[kn]'hkl)) := by
    have hc := World.ownsRow.cells hp.st.v (g := gv) rfl kn (.int .i64 (vl[kn]'hkl)) (by rw [List.getElem?_map, List.getElem?_eq_getElem hkl]; rfl)
    rwa [addr0] at hc
  obtain ⟨v, hv⟩ : ∃ v, v = vl[kn]'hkl := ⟨_, rfl⟩
  rw [← hv] at hcv hv0
  have HV := Lib.hid hv0
  have HD := Lib.hid hdn
  have HID := Lib.hid hid
  have HA := Lib.hid ha
  have hgl := (World.ownsRow.lt hp.st.v gv rfl).2
  obtain ⟨mk, hmk⟩ : ∃ mk, mk = s.mdI (kn : Int) := ⟨_, rfl⟩
  rw [← hmk] at hcm
  have HMK := Lib.hid hmk
  have hvlen : ∃ VL, VL = vl.length ∧ kn < VL := ⟨_, rfl, hkl⟩
  obtain ⟨VL, hVL, hkV⟩ := hvlen
  have HVL := Lib.hid hVL
  rw [← hVL] at x2
  clear hp h1 h2 h3 hdn hk hid ha hv hvl hv0 hmk hDb hVL hkl
  obtain rfl := HA.out
  cases mk
  · go_enter Try.func56, Try.ntmps56
    go_wp2_with fail
    go_ret2
    exact H.out.same HD.out HV.out
  · have hdd : decide ((kn : Int) ∈ D) = true := by
      have h := HD.out
      unfold dnS at h
      rw [← HMK.out] at h
      simpa using h
    have HDD := Lib.hid hdd
    clear hdd
    go_enter Try.func56, Try.ntmps56
    go_wp2_with fail
    refine (has_any w _ D ad cd (kn : Int) HID.out).mono ?_
    rintro e w1 ⟨rfl, rfl⟩
    rw [HDD.out]
    go_wp2_with fail
    go_ret2
    exact H.out.same HD.out HV.out

set_option maxHeartbeats 1000000 in
theorem ko_circ (hp : KoPre S s l q B a c a' c' vv dv uv vl D U k w) (hdn : dnS s D k = false) (hU : k ∈ U) :
    Calls Try.prog 56 #[.pointer (some ⟨q, 0, none⟩), .int .i64 k] w (KoPost s l q B a c a' c' vv dv uv D U k w) := by
  have H := Lib.hid hp
  obtain ⟨x0, x1, x2, x3, x4, _⟩ := Blk.five hp.st.bd
  obtain ⟨h1, h2, h3⟩ := inOk_of hp.inn
  have hlm : s.m.length ≤ 10 := (Sh.ok_iff.1 h1).1
  have hmk : s.mdI k = true := by
    unfold dnS at hdn
    rw [Bool.or_eq_false_iff] at hdn
    simpa using hdn.1
  have hkD : decide (k ∈ D) = false := by
    unfold dnS at hdn
    rw [Bool.or_eq_false_iff] at hdn
    exact hdn.2
  obtain ⟨kn, rfl⟩ : ∃ kn : Nat, k = kn := ⟨k.toNat, by have := hp.k0; omega⟩
  have hkn : kn < s.m.length := by have := (mdI_bd hmk).2; omega
  have hDb : ∀ x ∈ D, i64ok x := fun x hx => by have := mdI_bd (hp.dok.md x hx); unfold i64ok; omega
  have hUb : ∀ x ∈ U, i64ok x := fun x hx => by have := hp.undB x hx; unfold i64ok; omega
  obtain ⟨ad, cd, rfl, hid⟩ := hp.st.d.at hDb
  obtain ⟨au, cu, rfl, hiu⟩ := hp.st.u.at hUb
  obtain ⟨bm, om, ha, hbml, hcm⟩ := md_cell hp.sh hkn
  rw [hmk] at hcm
  have HNO := Lib.hid (hp.hyp.not hU)
  have HKD := Lib.hid hkD
  have HUU := Lib.hid (decide_eq_true hU)
  have HID := Lib.hid hid
  have HIU := Lib.hid hiu
  have HA := Lib.hid ha
  clear hp h1 h2 h3 hdn hid hiu ha hmk hDb hUb hkD hU
  obtain rfl := HA.out
  go_enter Try.func56, Try.ntmps56
  go_wp2_with fail
  refine (has_any w _ D ad cd (kn : Int) HID.out).mono ?_
  rintro e w1 ⟨rfl, rfl⟩
  rw [HKD.out]
  go_wp2_with fail
  refine (has_any w _ U au cu (kn : Int) HIU.out).mono ?_
  rintro e w1 ⟨rfl, rfl⟩
  rw [HUU.out]
  go_wp2_with fail
  go_ret2
  exact ⟨_, _, _, _, 0, false, rfl, H.out.st, Fr.of_below (Below.refl _ _), fun _ hb => .inl hb, fun _ hb => .inl hb, .inr ⟨rfl, HNO.out⟩⟩
end
end Go.Proofs.Ytochgmbeomfkpaa
/- spec.l4Once.key: a key that is made, not done, and not under way -/
namespace Go.Proofs.Ytochgmbeomfkpaa
open Go.RowKit

/-- Where the loop over fetches stands. -/
def KoRel (s : Sh) (l : List Int) (q B : Nat) (a : Option Addr) (c : Nat) (a' : Option Addr) (c' : Nat) (vv dv uv : Value) (D U : List Int) (kn : Nat) (w : World) (vg vx vy vb : Value) (wr : World) : Prop :=
  ∃ (m : Nat) (x y : Int) (b : Bool) (dv2 uv2 : Value) (vl2 D2 X : List Int), m ≤ (chS s l kn).length ∧ vx = .int .i64 x ∧ vy = .int .i64 y ∧ vb = .bool b ∧ (∀ j ∈ (chS s l kn).take m, dnS s D2 j = true) ∧
    NumRow wr B vg (((chS s l kn).take m).map (vsS s l)) ∧ OnSt wr q B s a c a' c' vv dv2 uv2 vl2 D2 (U ++ [(kn : Int)]) ∧ (∀ b, vg.ownBlock = some b → w.heap.size ≤ b ∧ ¬ oB q vv dv2 uv2 b) ∧ Fr (oB q vv dv uv) w wr ∧
    (∀ b, dv2.ownBlock = some b → dv.ownBlock = some b ∨ w.heap.size ≤ b) ∧ (∀ b, uv2.ownBlock = some b → uv.ownBlock = some b ∨ w.heap.size ≤ b) ∧ DOk s l vl2 D2 ∧ D2 = D ++ X ∧ (okS s l kn = true → ∀ y ∈ X, rkV s.mdI s.tkI (vf l) y < rkV s.mdI s.tkI (vf l) kn) ∧
    (∀ q' o m', Ends emS (chS s l) (dnS s D2) ((kn : Int) :: q') o m' → ∃ m'', Ends emS (chS s l) (dnS s D) ((kn : Int) :: q') (X ++ o) m'') ∧
    ((b = true ∧ m = (chS s l kn).length ∧ x = (s.tkI kn).val (vsS s l)) ∨ (b = false ∧ m < (chS s l kn).length ∧ (chS s l kn)[m]? = some y))

section
variable {S : Nat → Prop} {s : Sh} {l : List Int} {q B : Nat} {a : Option Addr} {c : Nat} {a' : Option Addr} {c' : Nat} {vv dv uv : Value} {vl D U : List Int} {w : World}

/-- A key under way is not done. -/
theorem ko_not {kn : Nat} {D2 X vl2 : List Int} (hd : dnS s D kn = false) (hok : DOk s l vl2 D2) (hX : D2 = D ++ X) (hr : okS s l kn = true → ∀ y ∈ X, rkV s.mdI s.tkI (vf l) y < rkV s.mdI s.tkI (vf l) kn) : dnS s D2 kn = false := by
  cases hx : dnS s D2 (kn : Int)
  · rfl
  · exfalso
    have h := hr (hok.hi _ hx)
    unfold dnS at hx hd
    rw [Bool.or_eq_false_iff] at hd
    rw [hd.1, Bool.false_or, decide_eq_true_eq, hX, List.mem_append] at hx
    rcases hx with hx | hx
    · rw [decide_eq_true hx] at hd; cases hd.2
    · have := h _ hx; omega

/-- A key that it hangs on is done: so much more is told. -/
theorem ko_child {kn m : Nat} {y : Int} {D2 D3 X X' : List Int} (hg : Gr s.m.length (chS s l) (fun k => !s.mdI k) (okS s l) (rkV s.mdI s.tkI (vf l))) (hmk : s.mdI (kn : Int) = true) (hkd : dnS s D2 kn = false) (hdn : ∀ j ∈ (chS s l kn).take m, dnS s D2 j = true) (hy : (chS s l kn)[m]? = some y)
    (hX : D2 = D ++ X) (hX' : D3 = D2 ++ X') (hr : okS s l kn = true → ∀ z ∈ X, rkV s.mdI s.tkI (vf l) z < rkV s.mdI s.tkI (vf l) kn) (hr' : ∀ z ∈ X', rkV s.mdI s.tkI (vf l) z ≤ rkV s.mdI s.tkI (vf l) y) (hv : Visit emS (chS s l) (dnS s D2) y X' (dnS s D3))
    (hs : ∀ q' o m', Ends emS (chS s l) (dnS s D2) ((kn : Int) :: q') o m' → ∃ m'', Ends emS (chS s l) (dnS s D) ((kn : Int) :: q') (X ++ o) m'') :
    D3 = D ++ (X ++ X') ∧ (okS s l kn = true → ∀ z ∈ X ++ X', rkV s.mdI s.tkI (vf l) z < rkV s.mdI s.tkI (vf l) kn) ∧ (∀ q' o m', Ends emS (chS s l) (dnS s D3) ((kn : Int) :: q') o m' → ∃ m'', Ends emS (chS s l) (dnS s D) ((kn : Int) :: q') ((X ++ X') ++ o) m'') := by
  refine ⟨by rw [hX', hX, List.append_assoc], fun hok z hz => ?_, fun q' o m' he => ?_⟩
  · rw [List.mem_append] at hz
    rcases hz with hz | hz
    · exact hr hok z hz
    · have h1 := hr' z hz
      have h2 := (hg.down (kn : Int) hok (by simp only [hmk]; rfl) y (List.mem_of_getElem? hy)).2
      omega
  · obtain ⟨m1, h1⟩ := hv ((kn : Int) :: q') o m' he
    have h2 : ∃ m2, Ends emS (chS s l) (dnS s D2) ((kn : Int) :: q') (X' ++ o) m2 := by
      cases hyd : dnS s D2 y
      · have hn : nxt (chS s l) (dnS s D2) (kn : Int) = some y := find_at hdn hy hyd
        exact ⟨_, Ends.more (em := emS) hkd hn h1⟩
      · obtain ⟨m2, _, h2⟩ := h1.inv_skip hyd
        exact ⟨m2, h2⟩
    obtain ⟨m2, h2⟩ := h2
    rw [List.append_assoc]
    exact hs q' _ m2 h2

/-- What is under is cut back. -/
theorem OnSt.cut {au : Option Addr} {cu : Nat} {k : Int} {D2 : List Int} {dv2 : Value} {vl2 : List Int} (h : OnSt w q B s a c a' c' vv dv2 (.slice au (U.length + 1) cu) vl2 D2 (U ++ [k])) : OnSt (w.setCell ⟨q, 4, none⟩ (.slice au U.length cu)) q B s a c a' c' vv dv2 (.slice au U.length cu) vl2 D2 U := by
  have hfq : Fr (fun b => b = q) w (w.setCell ⟨q, 4, none⟩ (.slice au U.length cu)) := Fr.set' (D := fun b => b = q) (Fr.of_below (Below.refl _ _)) ⟨q, 4, none⟩ rfl _
  have hrow := h.u
  obtain ⟨g, cap, he⟩ := own_some hrow (by simp)
  obtain ⟨rfl, rfl⟩ : au = some ⟨g, 0, none⟩ ∧ cu = cap := by simpa using he
  have h2 := ElRow.take (f := Value.int .i64) (e := 3) hrow U.length (by simp)
  rw [List.take_left] at h2
  exact ⟨h.bd.set_ 4 _, num_fr h.v hfq (fun b hb e => h.nqv (by rw [← e]; exact hb)), num_fr h.d hfq (fun b hb e => h.nqd (by rw [← e]; exact hb)), num_fr (show NumRow w B (.slice (some ⟨g, 0, none⟩) U.length cu) U from h2) hfq (fun b hb e => h.nqu (by rw [← e]; exact hb)), h.nqv, h.nqd, h.nqu, h.nvd, h.nvu, h.ndu⟩
theorem own_cut {au : Option Addr} {n n' cu b : Nat} (h : (Value.slice au n cu).ownBlock = some b) : (Value.slice au n' cu).ownBlock = some b := by cases au <;> exact h
theorem OnSt.drew (h : OnSt w q B s a c a' c' vv dv uv vl D U) : OnSt w.drew q B s a c a' c' vv dv uv vl D U := h.below (Below.refl _ _).drew

/-- All that the key hangs on is done: it is done too. -/
theorem ko_done {kn : Nat} {D2 X vl2 : List Int} (h1 : s.ok = true) (hkn : kn < l.length) (hmk : s.mdI (kn : Int) = true) (hdn : dnS s D kn = false) (hok : DOk s l vl2 D2) (hX : D2 = D ++ X) (hr : okS s l kn = true → ∀ y ∈ X, rkV s.mdI s.tkI (vf l) y < rkV s.mdI s.tkI (vf l) kn) (hall : ∀ j ∈ chS s l kn, dnS s D2 j = true)
    (hs : ∀ q' o m', Ends emS (chS s l) (dnS s D2) ((kn : Int) :: q') o m' → ∃ m'', Ends emS (chS s l) (dnS s D) ((kn : Int) :: q') (X ++ o) m'') :
    okS s l kn = true ∧ (s.tkI kn).val (vsS s l) = vsS s l kn ∧ DOk s l (vl2.set kn (vsS s l kn)) (D2 ++ [(kn : Int)]) ∧ dnS s (D2 ++ [(kn : Int)]) kn = true ∧
      ∃ X', D2 ++ [(kn : Int)] = D ++ X' ∧ (∀ y ∈ X', rkV s.mdI s.tkI (vf l) y ≤ rkV s.mdI s.tkI (vf l) kn) ∧ Visit emS (chS s l) (dnS s D) kn X' (dnS s (D2 ++ [(kn : Int)])) := by
  have hkd := ko_not hdn hok hX hr
  have hokk : okS s l kn = true := (gr_S h1 l).up (kn : Int) (fun j hj => hok.hi j (hall j hj))
  have hkn2 : kn < vl2.length := by rw [hok.vals.1]; exact hkn
  have hknD : ¬ (kn : Int) ∈ D2 := fun hm => by
    unfold dnS at hkd
    rw [decide_eq_true hm, Bool.or_true] at hkd
    cases hkd
  refine ⟨hokk, (vsS_made h1 hmk hokk).symm, ⟨fun x hx => ?_, ?_, fun x hx => ?_, ?_, fun y hy => ?_⟩, ?_, X ++ [(kn : Int)], by rw [hX, List.append_assoc], fun y hy => ?_, fun q' o m' he => ?_⟩
  · rw [List.mem_append, List.mem_singleton] at hx
    rcases hx with hx | rfl
    · exact hok.md x hx
    · exact hmk
  · rw [List.nodup_append]
    refine ⟨hok.nod, by simp, fun x hx y hy => ?_⟩
    rw [List.mem_singleton] at hy
    subst hy
    rintro rfl
    exact hknD hx
  · rw [dnS_snoc] at hx
    unfold upd at hx
    rw [Bool.or_eq_true] at hx
    rcases hx with hx | hx
    · exact hok.hi x hx
    · rw [of_decide_eq_true hx]; exact hokk
  · rw [List.length_set]; exact hok.vals.1
  · rw [vf_set hkn2 _ y hy, dnS_snoc]
    unfold upd
    by_cases hyk : y = (kn : Int)
    · subst hyk
      rw [if_pos rfl]; simp
    · rw [if_neg hyk, decide_eq_false hyk, Bool.or_false]
      exact hok.vals.2 y hy
  · rw [dnS_snoc]; unfold upd; simp
  · rw [List.mem_append, List.mem_singleton] at hy
    rcases hy with hy | rfl
    · exact Nat.le_of_lt (hr hokk y hy)
    · exact Nat.le_refl _
  · rw [dnS_snoc] at he
    have hn : nxt (chS s l) (dnS s D2) (kn : Int) = none := by
      unfold nxt
      rw [List.find?_eq_none]
      intro j hj
      rw [hall j hj]; simp
    obtain ⟨m2, h2⟩ := hs q' _ _ (Ends.fin (em := emS) hkd hn he)
    refine ⟨m2, ?_⟩
    rw [List.append_assoc]
    exact h2

set_option maxRecDepth 100000 in
set_option maxHeartbeats 3000000 in
theorem ko_main {kn r : Nat} (hIH : KoT S s l q B a c a' c' vv r) (hr : U.length + (r + 1) = s.m.length + 1) (hp : KoPre S s l q B a c a' c' vv dv uv vl D U (kn : Int) w) (hdn : dnS s D (kn : Int) = false) (hU : ¬ (kn : Int) ∈ U) :
    Calls Try.prog 56 #[.pointer (some ⟨q, 0, none⟩), .int .i64 (kn : Int)] w (KoPost s l q B a c a' c' vv dv uv D U kn w) := by
  have H := Lib.hid hp
  obtain ⟨x0, x1, x2, x3, x4, hfz⟩ := Blk.five hp.st.bd
  have f4 := hfz 4
  obtain ⟨h1, h2, h3⟩ := inOk_of hp.inn
  have hlm : s.m.length ≤ 10 := (Sh.ok_iff.1 h1).1
  have htl : s.t.length = s.m.length := (Sh.ok_iff.1 h1).2.1
  have hmk : s.mdI (kn : Int) = true := by
    have h := hdn
    unfold dnS at h
    rw [Bool.or_eq_false_iff] at h
    simpa using h.1
  have hkD : decide ((kn : Int) ∈ D) = false := by
    have h := hdn
    unfold dnS at h
    rw [Bool.or_eq_false_iff] at h
    exact h.2
  have hkn : kn < s.m.length := by have := (mdI_bd hmk).2; omega
  have hDb : ∀ x ∈ D, i64ok x := fun x hx => by have := mdI_bd (hp.dok.md x hx); unfold i64ok; omega
  have hUb : ∀ x ∈ U, i64ok x := fun x hx => by have := hp.undB x hx; unfold i64ok; omega
  have hUl := hp.undL
  have hDl := hp.dLen
  obtain ⟨ad, cd, rfl, hid⟩ := hp.st.d.at hDb
  obtain ⟨au, cu, rfl, hiu⟩ := hp.st.u.at hUb
  obtain ⟨bm, om, ha, hbml, hcm⟩ := md_cell hp.sh hkn
  rw [hmk] at hcm
  have hql : q < w.heap.size := hp.st.bd.lt
  have HKD := Lib.hid hkD
  have HUU := Lib.hid (decide_eq_false hU)
  have HU := Lib.hid hU
  have HID := Lib.hid hid
  have HIU := Lib.hid hiu
  have HA := Lib.hid ha
  have HMK := Lib.hid hmk
  have HDN := Lib.hid hdn
  have HOK := Lib.hid h1
  have HIN := Lib.hid hp.inn
  have HIH := Lib.hid hIH
  have HR := Lib.hid hr
  have HTL := Lib.hid htl
  have hB := hp.hB
  have hur : w.ownsRow B 3 1 (.slice au U.length cu) U.length (U.map (Value.int .i64)) := hp.st.u
  have HUR := Lib.hid hur
  clear hp h1 h2 h3 hdn hid hiu ha hmk hDb hUb hkD hU hIH hr htl hfz hur
  obtain rfl := HA.out
  obtain ⟨iN, ni, nz0, nz1, nz2⟩ := info_parts infoInt
  have HIN2 := Lib.hid (And.intro ni (And.intro nz0 (And.intro nz1 nz2)))
  have hmle : maxLen = 9223372036854775807 := rfl
  have HML := Lib.hid hmle
  clear ni nz0 nz1 nz2 hmle
  go_enter Try.func56, Try.ntmps56
  go_wp2_with fail
  refine (has_any w _ D ad cd (kn : Int) HID.out).mono ?_
  rintro e w1 ⟨rfl, rfl⟩
  rw [HKD.out]
  go_wp2_with fail
  refine (has_any w _ U au cu (kn : Int) HIU.out).mono ?_
  rintro e w1 ⟨rfl, rfl⟩
  rw [HUU.out]
  go_wp2_with (at_builtin; refine wpList_append_row _ rfl (.tmp 54) (.tmp 56) 26 rfl B 3 iN (.int .i64 0) 1 8 Try.underlying26 HIN2.out.1 HIN2.out.2.1 HIN2.out.2.2.1 HIN2.out.2.2.2 rfl (by decide) _ U.length (U.map (.int .i64)) rfl (World.ownsRow.alloc HUR.out _) ⟨w.heap.size, 0, none⟩ 1 1 [.int .i64 (kn : Int)] rfl rfl ?d1 ?d2 (by decide) ?d3 ?d4 ?d5 ?_)
  case d1 => exact news1 _ _ _
  case d2 => simp [Value.oneCell']
  case d3 => rw [HML.out]; omega
  case d4 => omega
  case d5 => simp; omega
  intro uv2 w3 hown hgr hnew
  have hs3 := hgr.size
  simp only [World.size_alloc] at hs3
  have hf3 : Fr (fun b => (Value.slice au U.length cu).ownBlock = some b) w w3 := (show Fr (fun b => (Value.slice au U.length cu).ownBlock = some b) w _ from Fr.of_below ((Below.refl w.heap.size w).alloc (Nat.le_refl _) (.cells #[.int .i64 (kn : Int)] 3))).trans (gr_fr hgr) (fun b hb => .inl hb)
  have hu3 : NumRow w3 B uv2 (U ++ [(kn : Int)]) := by
    unfold NumRow
    rw [List.map_append, List.length_append]
    exact hown
  have hnew2 : ∀ b, uv2.ownBlock = some b → (Value.slice au U.length cu).ownBlock = some b ∨ w.heap.size ≤ b := fun b hb => (hnew b hb).imp id (fun h => by first | omega | (simp at h; omega))
  obtain ⟨au2, cu2, rfl, _⟩ := ElRow.at (f := Value.int .i64) (e := 3) hu3
  have hul : (U ++ [(kn : Int)]).length = U.length + 1 := by simp
  rw [hul] at hu3 hnew2 ⊢
  have hst4 := H.out.st.setU hf3 hu3 hnew2
  have hbd3 := H.out.st.bd.fr hf3 H.out.st.nqu
  obtain ⟨y0, y1, y2, y3, y4, hfz⟩ := Blk.five hbd3
  have g4 := hfz 4
  have hq3 : q < w3.heap.size := hbd3.lt
  have hufo : ∀ b, (Value.slice au U.length cu).ownBlock = some b → B ≤ b := fun b hb => (World.ownsRow.lt H.out.st.u b hb).1
  have hts : AtS w3 S s.t a' c' := H.out.sh.2.fr hf3 (fun b hb h => by have := H.out.lo b hb; have := hufo b h; omega)
  have hkt : kn < s.t.length := by have := HTL.out; omega
  obtain ⟨b', o', a2, c2, rfl, hbl', hSb', e0, e1, e2, hat, _, _⟩ := hts.elem (Below.refl _ _) hkt
  have hb'q : b' < q := by have := H.out.lo b' hSb'; omega
  have htk : s.t[kn] = s.tkI (kn : Int) := by unfold Sh.tkI; rw [Int.toNat_natCast]; exact (getD_len hkt).symm
  rw [htk] at hat e0 e1 e2
  have hfq : Fr (fun b => b = q) w3 (w3.setCell ⟨q, 4, none⟩ (.slice au2 (U.length + 1) cu2)) := Fr.set' (D := fun b => b = q) (Fr.of_below (Below.refl _ _)) ⟨q, 4, none⟩ rfl _
  have hfr4 : Fr (oB q vv (.slice ad D.length cd) (.slice au U.length cu)) w (w3.setCell ⟨q, 4, none⟩ (.slice au2 (U.length + 1) cu2)) := (hf3.weaken (fun b hb => .inr (.inr (.inr hb)))).trans hfq (fun b hb => .inl (.inl hb))
  have hat4 : AtS (w3.setCell ⟨q, 4, none⟩ (.slice au2 (U.length + 1) cu2)) S (s.tkI (kn : Int)).ps a2 c2 := hat.setCell (fun b hb => by have := H.out.lo b hb; simp; omega) _
  have hsz : (w3.setCell ⟨q, 4, none⟩ (.slice au2 (U.length + 1) cu2)).heap.size = w3.heap.size := by simp [World.setCell]
  have hg4 := rowN_new (w3.setCell ⟨q, 4, none⟩ (.slice au2 (U.length + 1) cu2))
  have hvb := vsS_bd HIN.out
  have HNX := Lib.hid (fun (m : Nat) => next_any (vsS s l) hvb (s.tkI (kn : Int)) (tkI_fit HOK.out _) m)
  have HVB := Lib.hid hvb
  have H4 := Lib.hid (And.intro hst4 (And.intro hfr4 hnew2))
  have HAT4 := Lib.hid hat4
  have HTK := Lib.hid htk
  clear hown hgr hnew hf3 hu3 hnew2 hst4 hbd3 hfz x0 x1 x2 x3 x4 f4 hcm hul hufo hts hat htk hfq hfr4 hat4 hvb HUR HID HIU HA
  go_wp2_with fail
  obtain ⟨W, hW⟩ : ∃ W, W = w3.setCell ⟨q, 4, none⟩ (.slice au2 (U.length + 1) cu2) := ⟨_, rfl⟩
  rw [← hW] at H4 HAT4 hsz hg4 ⊢
  rw [hsz] at hg4
  have HG4 := Lib.hid hg4
  have HSZ := Lib.hid hsz
  clear hW hsz hg4 y0 y1 y2 y3 y4 g4 e0 e1 e2
  refine (HNX.out 0 (Nat.zero_le _) _ S (fun _ => True) a2 _ c2 0 (HAT4.out.alloc _) (IntsAt.nil (by omega))).mono ?_
  intro e w5 hp
  obtain ⟨x, y, bb, rfl, hb, hcase⟩ := hp.both
  have hlt4 := H4.out.1.lt
  have HLT4 := Lib.hid hlt4
  have hrel : KoRel s l q B (some ⟨bm, om, none⟩) c (some ⟨b', o', none⟩) c' vv (.slice ad D.length cd) (.slice au U.length cu) D U kn w (.slice (some ⟨w3.heap.size, 0, none⟩) 0 0) (.int .i64 x) (.int .i64 y) (.bool bb) w5 := by
    have hs4 := HSZ.out
    refine ⟨0, x, y, bb, _, _, vl, D, [], Nat.zero_le _, rfl, rfl, rfl, by simp, ownsRow_low (ElRow.below (f := Value.int .i64) (e := 3) HG4.out hb) (by omega), (H4.out.1.alloc _).below hb, fun b hb => ?_, ?_, fun _ h => .inl h, H4.out.2.2, H.out.dok, by simp, fun _ y hy => by simp at hy, fun q' o m' h => ⟨m', h⟩, ?_⟩
    · have hbe : b = w3.heap.size := by simp [Value.ownBlock] at hb; omega
      exact ⟨by omega, fun h => by have := HLT4.out b h; omega⟩
    · exact (H4.out.2.1.trans (D' := fun _ => False) (Fr.of_below ((Below.refl _ _).alloc (Nat.le_refl _) _)) (fun b hb => hb.elim)).trans (D' := fun _ => False) (Fr.of_below hb) (fun b hb => hb.elim)
    · rcases hcase with ⟨h1, h2, h3⟩ | ⟨h1, h2, h3⟩
      · exact .inl ⟨h1, h2, h3⟩
      · exact .inr ⟨h1, h2, h3⟩
  have HREL := Lib.hid hrel
  clear hp hrel hb hcase hlt4
  go_wp2_with fail
  clear HG4 H4 HAT4
  obtain ⟨KL, hKL⟩ : ∃ n, n = (chS s l kn).length := ⟨_, rfl⟩
  go_loopw [6, 7, 8, 9] (fun vg vx vy vb wr => KoRel s l q B (some ⟨bm, om, none⟩) c (some ⟨b', o', none⟩) c' vv (.slice ad D.length cd) (.slice au U.length cu) D U kn w vg vx vy vb wr ∧ True) (fun vg _ _ _ _ => KL - slLen vg)
  case atStart => exact ⟨HREL.out, trivial⟩
  case round =>
    obtain ⟨⟨m, x, y, b2, dv3, uv3, vl3, D3, X, hm, rfl, rfl, rfl, hdn, hg, hst, hgo, hfr, hod, hou, hdok, hX, hrk, hsim, hcase⟩, _⟩ := hrel
    have hql2 : q < wr.heap.size := hst.bd.lt
    have hwsz := hfr.size
    obtain ⟨z0, z1, z2, z3, z4, hfz⟩ := Blk.five hst.bd
    have g4 := hfz 4
    have g3 := hfz 3
    have hD3l : D3.length ≤ s.m.length := nodup_bound _ D3 hdok.nod (fun x hx => mdI_bd (hdok.md x hx))
    obtain ⟨au3, cu3, hu3, hiu3⟩ := ElRow.at (f := Value.int .i64) (e := 3) hst.u
    have hul : (U ++ [(kn : Int)]).length = U.length + 1 := by simp
    rw [hul] at hu3
    have hc3 : U.length + 1 ≤ cu3 ∧ cu3 ≤ 9223372036854775807 := by
      have h5 := hiu3.1; have h6 := hiu3.2.1; rw [hul] at h5; omega
    obtain ⟨ad3, cd3, hd3, _⟩ := ElRow.at (f := Value.int .i64) (e := 3) hst.d
    subst hu3 hd3
    have HKL := Lib.hid hKL
    have H5 := Lib.hid (And.intro hdn (And.intro hg (And.intro hst (And.intro hgo (And.intro hfr (And.intro hod (And.intro hou (And.intro hdok (And.intro hX (And.intro hrk hsim))))))))))
    have HM := Lib.hid hm
    clear HREL hdn hg hst hgo hfr hod hou hdok hX hrk hsim hiu3 hul hm hKL hfz
    rcases hcase with ⟨rfl, hmK, hx⟩ | ⟨rfl, hlt, hky⟩
    · have hall : ∀ j ∈ chS s l kn, dnS s D3 j = true := fun j hj => H5.out.1 j (by rw [List.take_of_length_le (by omega)]; exact hj)
      have hknl : kn < l.length := by have := (inOk_of HIN.out).2.1; omega
      obtain ⟨hokk, hval, hdok2, hdk, X2, hX2, hrk2, hvis⟩ := ko_done HOK.out hknl HMK.out HDN.out H5.out.2.2.2.2.2.2.2.1 H5.out.2.2.2.2.2.2.2.2.1 H5.out.2.2.2.2.2.2.2.2.2.1 hall H5.out.2.2.2.2.2.2.2.2.2.2
      have hx2 : x = vsS s l kn := by rw [hx]; exact hval
      have HF := Lib.hid (And.intro hokk (And.intro hx2 (And.intro hdok2 (And.intro hdk (And.intro hX2 (And.intro hrk2 hvis))))))
      have hvll : vl3.length = l.length := H5.out.2.2.2.2.2.2.2.1.vals.1
      have hknv : kn < vl3.length := by omega
      obtain ⟨gv, capv, hgv⟩ := own_some H5.out.2.2.1.v (by omega)
      subst hgv
      clear hall hokk hval hdok2 hdk hX2 hrk2 hvis hx2 hmK hx
      go_wp2_with fail
      go_region
      have hcut := H5.out.2.2.1.cut.drew
      obtain ⟨W1, hW1⟩ : ∃ W, W = (wr.setCell ⟨q, 4, none⟩ (.slice au3 U.length cu3)).drew := ⟨_, rfl⟩
      have hfr1 : Fr (oB q (.slice (some ⟨gv, 0, none⟩) vl3.length capv) (.slice ad D.length cd) (.slice au U.length cu)) w W1 := by
        rw [hW1]
        exact (H5.out.2.2.2.2.1.set' ⟨q, 4, none⟩ (.inl rfl) _).trans (D' := fun _ => False) (Fr.of_below (Below.refl _ _).drew) (fun b hb => hb.elim)
      rw [← hW1] at hcut ⊢
      have hs1 : W1.heap.size = wr.heap.size := by rw [hW1]; simp [World.setCell]
      obtain ⟨t0, t1, t2, t3, t4, hfz⟩ := Blk.five hcut.bd
      have f3 := hfz 3
      have hcv : W1.cell? ⟨gv, kn, none⟩ = some (.int .i64 (vl3[kn]'hknv)) := by
        have hc := World.ownsRow.cells hcut.v (g := gv) rfl kn (.int .i64 (vl3[kn]'hknv)) (by rw [List.getElem?_map, List.getElem?_eq_getElem hknv]; rfl)
        rwa [addr0] at hc
      obtain ⟨ov, hov⟩ : ∃ ov, ov = Value.int .i64 (vl3[kn]'hknv) := ⟨_, rfl⟩
      rw [← hov] at hcv
      obtain ⟨csv, hbv⟩ := num_blk hcut.v
      have hfv := hbv.frozen kn
      have hgl := hbv.lt
      have hgq : gv ≠ q := fun e => hcut.nqv (by rw [e]; rfl)
      have hql1 : q < W1.heap.size := hcut.bd.lt
      have hset := hcut.setV kn x
      have hsz : (W1.setCell ⟨gv, kn, none⟩ (.int .i64 x)).heap.size = W1.heap.size := by simp [World.setCell]
      have hrow8 : (W1.setCell ⟨gv, kn, none⟩ (.int .i64 x)).ownsRow B 3 1 (.slice ad3 D3.length cd3) D3.length (D3.map (Value.int .i64)) := hset.d
      have HROW8 := Lib.hid hrow8
      have hfr2 := hfr1.set' ⟨gv, kn, none⟩ (.inr (.inl rfl)) (.int .i64 x)
      have HS := Lib.hid (And.intro hset hfr2)
      have HS1 := Lib.hid hs1
      clear hcut hfz hov hbv hset hrow8 hfr1 hfr2 hW1 z0 z1 z2 z3 z4 g3 g4 hs1
      go_wp2_with (at_builtin; refine wpList_append_row _ rfl (.tmp 130) (.tmp 132) 26 rfl B 3 iN (.int .i64 0) 1 8 Try.underlying26 HIN2.out.1 HIN2.out.2.1 HIN2.out.2.2.1 HIN2.out.2.2.2 rfl (by decide) _ D3.length (D3.map (Value.int .i64)) rfl (World.ownsRow.alloc HROW8.out _) _ 1 1 [.int .i64 (kn : Int)] rfl rfl ?h1 ?h2 (by decide) ?h3 ?h4 ?h5 ?_)
      case h1 => first | exact news1 _ _ _ | (have h := news1 (W1.setCell ⟨gv, kn, none⟩ (.int .i64 x)) 3 (.int .i64 (kn : Int)); rw [hsz] at h; exact h)
      case h2 => simp [Value.oneCell']
      case h3 => rw [HML.out]; omega
      case h4 => omega
      case h5 => simp [hsz]; omega
      intro dv9 w9 hown hgr hnew
      have hr9 : NumRow w9 B dv9 (D3 ++ [(kn : Int)]) := by
        unfold NumRow
        rw [List.map_append, List.length_append]
        exact hown
      have hf9 : Fr (fun b => (Value.slice ad3 D3.length cd3).ownBlock = some b) (W1.setCell ⟨gv, kn, none⟩ (.int .i64 x)) w9 := (Fr.of_below (D := fun b => (Value.slice ad3 D3.length cd3).ownBlock = some b) ((Below.refl (W1.setCell ⟨gv, kn, none⟩ (.int .i64 x)).heap.size (W1.setCell ⟨gv, kn, none⟩ (.int .i64 x))).alloc (Nat.le_refl _) (.cells #[.int .i64 (kn : Int)] 3))).trans (gr_fr hgr) (fun b hb => .inl hb)
      have hn9 : ∀ b, dv9.ownBlock = some b → (Value.slice ad3 D3.length cd3).ownBlock = some b ∨ (W1.setCell ⟨gv, kn, none⟩ (.int .i64 x)).heap.size ≤ b := fun b hb => (hnew b hb).imp id (fun h => by rw [hsz]; first | omega | (simp [hsz] at h; omega))
      obtain ⟨ad9, cd9, rfl, _⟩ := ElRow.at (f := Value.int .i64) (e := 3) hr9
      have hst9 := HS.out.1.setD hf9 hr9 hn9
      have hbd9 := HS.out.1.bd.fr hf9 HS.out.1.nqd
      obtain ⟨t0, t1, t2, t3, t4, hfz⟩ := Blk.five hbd9
      have f39 := hfz 3
      have hq9 : q < w9.heap.size := hbd9.lt
      have hfr9 := (HS.out.2.trans hf9 (fun b hb => by
        rcases H5.out.2.2.2.2.2.1 b hb with h | h
        · exact .inl (.inr (.inr (.inl h)))
        · exact .inr h)).set' ⟨q, 3, none⟩ (.inl rfl) (.slice ad9 (D3 ++ [(kn : Int)]).length cd9)
      have hgd : ∀ b, (Value.slice ad9 (D3 ++ [(kn : Int)]).length cd9).ownBlock = some b → (Value.slice ad D.length cd).ownBlock = some b ∨ w.heap.size ≤ b := fun b hb => by
        rcases hn9 b hb with h | h
        · exact H5.out.2.2.2.2.2.1 b h
        · rw [hsz, HS1.out] at h; exact .inr (by omega)
      have H9 := Lib.hid (And.intro hst9 (And.intro hfr9 hgd))
      have hlen9 : (D3 ++ [(kn : Int)]).length = D3.length + 1 := by simp
      rw [hlen9] at H9 ⊢
      clear hown hgr hnew hr9 hf9 hn9 hst9 hbd9 hfz hfr9 hgd hlen9 hcv hfv HS HROW8 f3
      go_wp2_with fail
      go_ret2
      exact ⟨_, .slice au3 U.length cu3, vl3.set kn x, D3 ++ [(kn : Int)], x, true, rfl, H9.out.1, H9.out.2.1, H9.out.2.2, fun b hb => H5.out.2.2.2.2.2.2.1 b (own_cut hb), .inl ⟨rfl, HF.out.1, HF.out.2.1, by rw [HF.out.2.1]; exact HF.out.2.2.1, HF.out.2.2.2.1, X2, HF.out.2.2.2.2⟩⟩
    · have hyK : y ∈ chS s l kn := List.mem_of_getElem? hky
      have hyb := (T.kys_bd (vsS s l) (s.tkI (kn : Int)) (tkI_fit HOK.out _)).1 y hyK
      have hge := H.out.st.ge hB
      have hsh : ShAt wr S s (some ⟨bm, om, none⟩) c (some ⟨b', o', none⟩) c' := H.out.sh.fr H5.out.2.2.2.2.1 (fun b hb h => by have := H.out.lo b hb; have := hge b h; omega)
      have hpre : KoPre S s l q B (some ⟨bm, om, none⟩) c (some ⟨b', o', none⟩) c' vv (.slice ad3 D3.length cd3) (.slice au3 (U.length + 1) cu3) vl3 D3 (U ++ [(kn : Int)]) y wr :=
        ⟨HIN.out, hsh, H.out.lo, hB, H5.out.2.2.1, H5.out.2.2.2.2.2.2.2.1, hyb.1, hyb.2, H.out.hyp.next (gr_S HOK.out l) (by simp only [HMK.out]; rfl) hyK, by
          rw [List.nodup_append]
          refine ⟨H.out.nod, by simp, fun x hx z hz => ?_⟩
          rw [List.mem_singleton] at hz
          subst hz
          rintro rfl
          exact HU.out hx⟩
      have HKY := Lib.hid (And.intro hlt hky)
      have HIHC := Lib.hid (HIH.out _ _ vl3 D3 (U ++ [(kn : Int)]) y wr (by rw [List.length_append, List.length_singleton]; have := HR.out; omega) hpre)
      clear hyK hyb hpre hlt hky hge hsh
      go_wp2_with fail
      refine HIHC.out.mono ?_
      rintro e w5 ⟨dv4, uv4, vl4, D4, v4, b4, rfl, hst4, hfr4, hod4, hou4, hor⟩
      have hs5 := hfr4.size
      have hq5 : q < w5.heap.size := hst4.bd.lt
      obtain ⟨au4, cu4, hu4, hiu4⟩ := ElRow.at (f := Value.int .i64) (e := 3) hst4.u
      have hul : (U ++ [(kn : Int)]).length = U.length + 1 := by simp
      rw [hul] at hu4
      have hc4 : U.length + 1 ≤ cu4 ∧ cu4 ≤ 9223372036854775807 := by
        have h5 := hiu4.1; have h6 := hiu4.2.1; rw [hul] at h5; omega
      subst hu4
      have hge3 := H5.out.2.2.1.ge hB
      have hfr5 : Fr (oB q vv (.slice ad D.length cd) (.slice au U.length cu)) w w5 := H5.out.2.2.2.2.1.trans hfr4 (fun b hb => by
        rcases hb with hb | hb | hb | hb
        · exact .inl (.inl hb)
        · exact .inl (.inr (.inl hb))
        · rcases H5.out.2.2.2.2.2.1 b hb with h | h
          · exact .inl (.inr (.inr (.inl h)))
          · exact .inr h
        · rcases H5.out.2.2.2.2.2.2.1 b hb with h | h
          · exact .inl (.inr (.inr (.inr h)))
          · exact .inr h)
      have hod5 : ∀ b, dv4.ownBlock = some b → (Value.slice ad D.length cd).ownBlock = some b ∨ w.heap.size ≤ b := fun b hb => by
        rcases hod4 b hb with h | h
        · exact H5.out.2.2.2.2.2.1 b h
        · exact .inr (by omega)
      have hou5 : ∀ b, (Value.slice au4 (U.length + 1) cu4).ownBlock = some b → (Value.slice au U.length cu).ownBlock = some b ∨ w.heap.size ≤ b := fun b hb => by
        rcases hou4 b hb with h | h
        · exact H5.out.2.2.2.2.2.2.1 b h
        · exact .inr (by omega)
      have H6 := Lib.hid (And.intro hst4 (And.intro hfr5 (And.intro hod5 (And.intro hou5 (And.intro hfr4 (And.intro hod4 hou4))))))
      clear hiu4 hul hfr5 hod5 hou5 hge3 hod4 hou4 HIHC z0 z1 z2 z3 z4 g3 g4
      rcases hor with ⟨rfl, hoky, hv4, hdok4, hyd4, X4, hX4, hrk4, hvis4⟩ | ⟨rfl, hnoky⟩
      · have hkd := ko_not HDN.out H5.out.2.2.2.2.2.2.2.1 H5.out.2.2.2.2.2.2.2.2.1 H5.out.2.2.2.2.2.2.2.2.2.1
        have hch := ko_child (gr_S HOK.out l) HMK.out hkd H5.out.1 HKY.out.2 H5.out.2.2.2.2.2.2.2.2.1 hX4 H5.out.2.2.2.2.2.2.2.2.2.1 hrk4 hvis4 H5.out.2.2.2.2.2.2.2.2.2.2
        have hdn4 : ∀ j ∈ (chS s l kn).take (m + 1), dnS s D4 j = true := by
          rw [take_succ_map HKY.out.2]
          intro j hj
          rw [List.mem_append, List.mem_singleton] at hj
          rcases hj with hj | rfl
          · have h := H5.out.1 j hj
            unfold dnS at h ⊢
            rw [Bool.or_eq_true, decide_eq_true_eq] at h
            rw [Bool.or_eq_true, decide_eq_true_eq]
            exact h.imp id (fun h => by rw [hX4]; exact List.mem_append_left _ h)
          · exact hyd4
        have hgo5 : NumRow w5 B u6 (((chS s l kn).take m).map (vsS s l)) := num_fr H5.out.2.1 hfr4 (fun b hb => (H5.out.2.2.2.1 b hb).2)
        have hgl := (World.ownsRow.lt H5.out.2.1)
        have hml : (((chS s l kn).take m).map (vsS s l)).length = m := got_len HM.out
        have hm15 : m ≤ 15 := by
          have h1 := (T.kys_bd (vsS s l) (s.tkI (kn : Int)) (tkI_fit HOK.out _)).2
          have h2 := (Sh.tk_fit HOK.out (kn : Int).toNat).2
          have h3 : (chS s l kn).length ≤ (s.tkI (kn : Int)).nodes := h1
          have h4 : (s.tkI (kn : Int)).nodes ≤ 15 := h2
          have := HM.out
          omega
        obtain ⟨G, hG⟩ : ∃ G, G = ((chS s l kn).take m).map (vsS s l) := ⟨_, rfl⟩
        have HGE := Lib.hid hG
        have hgow : w5.ownsRow B 3 1 u6 m (G.map (.int .i64)) := by
          rw [hG]
          have h := hgo5
          unfold NumRow at h
          rwa [hml] at h
        have HGO := Lib.hid hgow
        have HSL := Lib.hid (show slLen u6 = m by rw [NumRow.len H5.out.2.1, hml])
        have HC := Lib.hid (And.intro hdok4 (And.intro hch (And.intro hdn4 (And.intro hgl (And.intro hv4 hfr4)))))
        have hBw5 : B ≤ w5.heap.size := by omega
        clear hoky hv4 hdok4 hyd4 hX4 hrk4 hvis4 hkd hch hdn4 hgo5 hgl hml hG hgow hst4 hfr4
        go_wp2_with (at_builtin; refine wpList_append_row _ rfl (.tmp 85) (.tmp 87) 26 rfl B 3 iN (.int .i64 0) 1 8 Try.underlying26 HIN2.out.1 HIN2.out.2.1 HIN2.out.2.2.1 HIN2.out.2.2.2 rfl (by decide) _ m (G.map (.int .i64)) rfl (World.ownsRow.alloc HGO.out _) ⟨w5.heap.size, 0, none⟩ 1 1 [.int .i64 v4] rfl rfl ?f1 ?f2 (by decide) ?f3 ?f4 ?f5 ?_)
        case f1 => exact news1 _ _ _
        case f2 => simp [Value.oneCell']
        case f3 => rw [HML.out]; omega
        case f4 => omega
        case f5 => simp; omega
        intro vg6 w6 hown hgr hnew
        rw [HGE.out] at hown
        have hs6 := hgr.size
        simp only [World.size_alloc] at hs6
        have hgr2 : Fr (fun b => u6.ownBlock = some b) w5 w6 := (show Fr (fun b => u6.ownBlock = some b) w5 _ from Fr.of_below ((Below.refl w5.heap.size w5).alloc (Nat.le_refl _) (.cells #[.int .i64 v4] 3))).trans (gr_fr hgr) (fun b hb => .inl hb)
        have hnew2 : ∀ b, vg6.ownBlock = some b → u6.ownBlock = some b ∨ w5.heap.size ≤ b := fun b hb => (hnew b hb).imp id (fun h => by first | omega | (simp at h; omega))
        have htk1 : (chS s l kn).take (m + 1) = (chS s l kn).take m ++ [y] := take_succ_map HKY.out.2
        have hl6 : (((chS s l kn).take (m + 1)).map (vsS s l)).length = m + 1 := got_len (by have := HKY.out.1; omega)
        have hg6 : NumRow w6 B vg6 (((chS s l kn).take (m + 1)).map (vsS s l)) := by
          unfold NumRow
          rw [hl6, htk1, List.map_append, List.map_append]
          simp only [List.map_cons, List.map_nil]
          rw [← HC.out.2.2.2.2.1]
          exact hown
        have hgno : ∀ b, u6.ownBlock = some b → ¬ oB q vv dv4 (.slice au4 (U.length + 1) cu4) b := fun b hb h => by
          have h1 := (H5.out.2.2.2.1 b hb).2
          have h2 := (HC.out.2.2.2.1 b hb).2
          rcases h with h | h | h | h
          · exact h1 (.inl h)
          · exact h1 (.inr (.inl h))
          · rcases H6.out.2.2.2.2.2.1 b h with h | h
            · exact h1 (.inr (.inr (.inl h)))
            · omega
          · rcases H6.out.2.2.2.2.2.2 b h with h | h
            · exact h1 (.inr (.inr (.inr h)))
            · omega
        have hst6 := H6.out.1.fr hgr2 hgno
        have hfr6 : Fr (oB q vv (.slice ad D.length cd) (.slice au U.length cu)) w w6 := H6.out.2.1.trans hgr2 (fun b hb => .inr (H5.out.2.2.2.1 b hb).1)
        have hlt6 := H6.out.1.lt
        have hgo6 : ∀ b, vg6.ownBlock = some b → w.heap.size ≤ b ∧ ¬ oB q vv dv4 (.slice au4 (U.length + 1) cu4) b := fun b hb => by
          rcases hnew2 b hb with h | h
          · exact ⟨(H5.out.2.2.2.1 b h).1, hgno b h⟩
          · exact ⟨by omega, fun h2 => by have := hlt6 b h2; omega⟩
        have hge := H.out.st.ge hB
        have hts : AtS w6 S s.t (some ⟨b', o', none⟩) c' := H.out.sh.2.fr hfr6 (fun b hb h => by have := H.out.lo b hb; have := hge b h; omega)
        obtain ⟨b7, o7, a7, c7, he7, hbl7, hSb7, e0, e1, e2, hat, _, _⟩ := hts.elem (Below.refl _ _) hkt
        injection he7 with he7
        injection he7 with he7 he7'
        subst he7 he7'
        rw [HTK.out] at hat e0 e1 e2
        have HAT := Lib.hid hat
        obtain ⟨ag6, cg6, hv6, hia6⟩ := NumRow.at hg6 (fun x hx => by
          obtain ⟨j, _, rfl⟩ := List.mem_map.1 hx
          have := HVB.out j
          unfold i64ok; omega)
        rw [hl6] at hv6
        subst hv6
        have HIA := Lib.hid hia6
        obtain ⟨z0, z1, z2, z3, z4, _⟩ := Blk.five hst6.bd
        have hq6 : q < w6.heap.size := hst6.bd.lt
        have hcg6 : m + 1 ≤ cg6 ∧ cg6 ≤ 9223372036854775807 := by have h1 := hia6.1; have h2 := hia6.2.1; rw [hl6] at h1; omega
        have H7 := Lib.hid (And.intro hg6 (And.intro hst6 (And.intro hfr6 hgo6)))
        have HLT := Lib.hid (show m + 1 ≤ (chS s l kn).length by have := HKY.out.1; omega)
        clear hown hgr hnew hnew2 hgr2 htk1 hl6 hg6 hgno hst6 hfr6 hlt6 hgo6 hge hts hat hia6 hSb7
        go_wp2_with fail
        refine (HNX.out (m + 1) HLT.out w6 S _ a7 ag6 c7 cg6 HAT.out HIA.out).mono ?_
        intro e w7 hp
        obtain ⟨x7, y7, b7, rfl, hb, hcase⟩ := hp.both
        have hst7 := H7.out.2.1.below hb
        have hg7 := ElRow.below (f := Value.int .i64) (e := 3) H7.out.1 hb
        have hfr7 := H7.out.2.2.1.trans (D' := fun _ => False) (Fr.of_below hb) (fun b hb => hb.elim)
        have H8 := Lib.hid (And.intro hg7 (And.intro hst7 (And.intro hfr7 hcase)))
        clear hp hb hcase hst7 hg7 hfr7 e0 e1 e2 z0 z1 z2 z3 z4
        go_wp2_with fail
        refine ⟨⟨⟨m + 1, x7, y7, b7, dv4, _, vl4, D4, X ++ X4, HLT.out, rfl, rfl, rfl, HC.out.2.2.1, H8.out.1, H8.out.2.1, H7.out.2.2.2, H8.out.2.2.1, H6.out.2.2.1, H6.out.2.2.2.1, HC.out.1, HC.out.2.1.1, HC.out.2.1.2.1, HC.out.2.1.2.2, H8.out.2.2.2⟩, trivial⟩, ?_⟩
        rw [HSL.out]
        simp only [slLen]
        have := HKY.out.1
        have := HKL.out
        omega
      · have hnk : okS s l (kn : Int) = false := by
          cases hx : okS s l (kn : Int)
          · rfl
          · have := ((gr_S HOK.out l).down (kn : Int) hx (by simp only [HMK.out]; rfl) y (List.mem_of_getElem? HKY.out.2)).1
            rw [hnoky] at this; cases this
        have HNK := Lib.hid hnk
        obtain ⟨z0, z1, z2, z3, z4, hfz⟩ := Blk.five hst4.bd
        have g4 := hfz 4
        clear hnoky hnk hst4 hfr4 hfz
        go_wp2_with fail
        go_region
        go_wp2_with fail
        go_ret2
        have hcut := H6.out.1.cut.drew
        exact ⟨dv4, _, vl4, D4, 0, false, rfl, hcut, (H6.out.2.1.set' ⟨q, 4, none⟩ (.inl rfl) _).trans (D' := fun _ => False) (Fr.of_below (Below.refl _ _).drew) (fun b hb => hb.elim), H6.out.2.2.1, fun b hb => H6.out.2.2.2.1 b (own_cut hb), .inr ⟨rfl, HNK.out⟩⟩

theorem ko_all : ∀ r, KoT S s l q B a c a' c' vv r
  | 0 => fun dv uv vl D U k w hr hp => by
    have := hp.undL
    omega
  | r + 1 => fun dv uv vl D U k w hr hp => by
    by_cases hk : (s.m.length : Int) ≤ k
    · exact ko_far hp hk
    cases hd : dnS s D k
    · by_cases hU : k ∈ U
      · exact ko_circ hp hd hU
      obtain ⟨kn, rfl⟩ : ∃ kn : Nat, k = kn := ⟨k.toNat, by have := hp.k0; omega⟩
      exact ko_main (ko_all r) (by omega) hp hd hU
    · exact ko_in hp (by omega) hd
end
end Go.Proofs.Ytochgmbeomfkpaa
/- spec.OrderSuspend -/
namespace Go.Proofs.Ytochgmbeomfkpaa
open Go.RowKit

theorem IntsAt.drew1 {w : World} {S : Nat → Prop} {l : List Int} {a : Option Addr} {c : Nat} (h : IntsAt w S l a c) : IntsAt w.drew S l a c := IntsAt.drew h

set_option maxRecDepth 100000 in
set_option maxHeartbeats 3000000 in
theorem specSuspend_any (s : Sh) (l ks : List Int) (w : World) (S0 S1 S2 : Nat → Prop) (a : Option Addr) (c : Nat) (a' : Option Addr) (c' : Nat) (ai : Option Addr) (ci : Nat) (ak : Option Addr) (ck : Nat) (h0 : ShAt w S0 s a c a' c') (hn : nodesL s.t ≤ 1048576) (hl : IntsAt w S1 l ai ci) (hk0 : IntsAt w S2 ks ak ck) (hkl : ks.length ≤ 1048576) :
    Calls Try.prog 21 #[.agg #[.slice a s.m.length c, .slice a' s.t.length c'], .slice ai l.length ci, .slice ak ks.length ck] w (OrP (suB s l ks) (suL s l ks) w) := by
  have K0 := Lib.hid (Ks.start (ty := 32) h0.lim)
  have L0 := Lib.hid (hl.alloc (.cells #[.slice a s.m.length c, .slice a' s.t.length c'] 32))
  have Q0 := Lib.hid (hk0.lim.alloc (.cells #[.slice a s.m.length c, .slice a' s.t.length c'] 32))
  have HNN := Lib.hid hn
  obtain ⟨KL, hKL⟩ : ∃ n, n = ks.length := ⟨_, rfl⟩
  have HKL := Lib.hid hKL
  rw [← hKL] at hkl ⊢
  obtain ⟨LL, hLL⟩ : ∃ n, n = l.length := ⟨_, rfl⟩
  have HLL := Lib.hid hLL
  rw [← hLL]
  obtain ⟨b, hb⟩ : ∃ b, b = suB s l ks := ⟨_, rfl⟩
  obtain ⟨L, hL⟩ : ∃ L, L = suL s l ks := ⟨_, rfl⟩
  have HNO := Lib.hid (show ∀ (w' : World) (v : Value), suB s l ks = false → Below w.heap.size w w' → NumRow w' w.heap.size v [] → OrP b L w (.returned (.tuple #[v, .bool false])) w' from fun w' v h1 h2 h3 => by rw [hb, hL]; exact OrP.su_no h1 h2 h3)
  have HYES := Lib.hid (show ∀ (w' : World) (v : Value) (o : List Int) (m : Nat), suB s l ks = true → Ends emS (chS s l) (d0S s) ks o m → Below w.heap.size w w' → NumRow w' w.heap.size v o → OrP b L w (.returned (.tuple #[v, .bool true])) w' from fun w' v o m h1 h2 h3 h4 => by rw [hb, hL]; exact OrP.su_yes h1 h2 h3 h4)
  rw [← hb, ← hL]
  clear h0 hl hk0 hKL hLL hb hL hn
  obtain ⟨x0, x1⟩ := K0.out.box
  cases hin : inOk s l
  · have HI := Lib.hid hin
    clear hin
    go_enter Try.func21, Try.ntmps21
    go_wp2_with fail
    have hc := specInputs_any s l _ _ _ a c a' c' ai ci K0.out.2 HNN.out L0.out
    rw [← HLL.out] at hc
    refine hc.mono ?_
    clear hc
    rintro e w1 ⟨rfl, hb⟩
    rw [HI.out]
    have K1 := Lib.hid (K0.out.step hb)
    clear hb x0 x1
    go_wp2_with fail
    go_ret2
    exact HNO.out _ _ (by unfold suB; rw [HI.out]; rfl) (K1.out.alloc _).done (ownsRow_low (rowN_new w1) (by have := K1.out.size; omega))
  cases hkb : kyB s ks
  · have HI := Lib.hid hin
    have HK := Lib.hid hkb
    clear hin hkb
    go_enter Try.func21, Try.ntmps21
    go_wp2_with fail
    have hc := specInputs_any s l _ _ _ a c a' c' ai ci K0.out.2 HNN.out L0.out
    rw [← HLL.out] at hc
    refine hc.mono ?_
    clear hc
    rintro e w1 ⟨rfl, hb⟩
    rw [HI.out]
    have K1 := Lib.hid (K0.out.step hb)
    have Q1 := Lib.hid (Q0.out.below hb)
    clear hb x0 x1
    obtain ⟨x0, x1⟩ := K1.out.box
    go_wp2_with fail
    have hc := l4Keys_any s ks w1 _ _ a c a' c' ak ck K1.out.2 HNN.out Q1.out
    rw [← HKL.out] at hc
    refine hc.mono ?_
    clear hc
    rintro e w2 ⟨rfl, hb⟩
    rw [HK.out]
    have K2 := Lib.hid (K1.out.step hb)
    clear hb x0 x1
    go_wp2_with fail
    go_ret2
    have hno : hkB s ks = false := by
      have h := HK.out
      unfold kyB at h
      rw [(inOk_of HI.out).1, Bool.and_true] at h
      exact h
    exact HNO.out _ _ (by unfold suB; rw [hno]; simp) (K2.out.alloc _).done (ownsRow_low (rowN_new w2) (by have := K2.out.size; omega))
  have hhk : hkB s ks = true := by
    unfold kyB at hkb
    rw [Bool.and_eq_true] at hkb
    exact hkb.1
  have hok := (inOk_of hin).1
  have h10 : s.m.length ≤ 10 := (Sh.ok_iff.1 hok).1
  have HLM := Lib.hid (show LL = s.m.length by rw [HLL.out]; exact (inOk_of hin).2.1)
  have hll10 : LL ≤ 10 := by have := HLM.out; omega
  have HI := Lib.hid hin
  have HK := Lib.hid hkb
  have HHK := Lib.hid hhk
  have HSO := Lib.hid hok
  clear hin hkb hhk hok
  go_enter Try.func21, Try.ntmps21
  go_wp2_with fail
  have hc := specInputs_any s l _ _ _ a c a' c' ai ci K0.out.2 HNN.out L0.out
  rw [← HLL.out] at hc
  refine hc.mono ?_
  clear hc
  rintro e w1 ⟨rfl, hb⟩
  rw [HI.out]
  have K1 := Lib.hid (K0.out.step hb)
  have L1 := Lib.hid (L0.out.below hb)
  have Q1 := Lib.hid (Q0.out.below hb)
  clear hb x0 x1 K0 L0 Q0
  obtain ⟨x0, x1⟩ := K1.out.box
  go_wp2_with fail
  have hc := l4Keys_any s ks w1 _ _ a c a' c' ak ck K1.out.2 HNN.out Q1.out
  rw [← HKL.out] at hc
  refine hc.mono ?_
  clear hc
  rintro e w2 ⟨rfl, hb⟩
  rw [HK.out]
  have K2 := Lib.hid (K1.out.step hb)
  have L2 := Lib.hid (L1.out.below hb)
  have Q2 := Lib.hid (Q1.out.below hb)
  have hs2 := (K1.out.step hb).size
  clear hb x0 x1 K1 L1 Q1
  obtain ⟨x0, x1⟩ := K2.out.box
  go_wp2_with fail
  have hwlt : w.heap.size < w2.heap.size := by omega
  have hwne : w.heap.size ≠ w2.heap.size := by omega
  obtain ⟨v0, v1⟩ := (K2.out.alloc (.cells #[] 3)).drew.box
  have HN1 := Lib.hid (NumRow.dr (rowN_new w2))
  have HN2 := Lib.hid (show NumRow (w2.drew.alloc (.cells #[] 3)) w2.heap.size (.slice (some ⟨w2.heap.size, 0, none⟩) 0 0) [] from rowN_new w2.drew)
  have HI1 := Lib.hid ((L2.out.alloc (.cells #[] 3)).drew)
  have HI2 := Lib.hid (L2.out.drew.alloc (.cells #[] 3))
  have HLN := Lib.hid (show ([] : List Int).length + l.length ≤ 10000000 by rw [← HLL.out]; simp; omega)
  have HS1 := Lib.hid (show w2.heap.size ≤ (w2.alloc (.cells #[] 3)).drew.heap.size by simp [World.drew])
  have HS2 := Lib.hid (show w2.heap.size ≤ (w2.drew.alloc (.cells #[] 3)).heap.size by rw [World.size_alloc]; exact Nat.le_succ _)
  have HB1 := Lib.hid (show Below w2.heap.size w2 (w2.alloc (.cells #[] 3)).drew from ((Below.refl _ _).alloc (Nat.le_refl _) _).drew)
  have HB2 := Lib.hid (show Below w2.heap.size w2 (w2.drew.alloc (.cells #[] 3)) from ((Below.refl _ _).drew).alloc (Nat.le_refl _) _)
  go_region_law (first
    | (refine step_append_ints rfl (.tmp 24) (.tmp 25) rfl w2.heap.size (Value.slice (some ⟨w2.heap.size, 0, none⟩) 0 0) [] rfl HN1.out S1 l LL ai ci HLL.out rfl HI1.out HLN.out HS1.out ?_
       intro vv w4 hr4 hgr4 hn4
       have hB4 := HB1.out.trans (below_grown hgr4 HS1.out (by intro k hk; simp [Value.ownBlock] at hk; omega))
       obtain ⟨av, cv, rfl, _⟩ := ElRow.at (f := Value.int .i64) (e := 3) hr4
       obtain ⟨z0, z1⟩ := (K2.out.step hB4).box)
    | (refine step_append_ints rfl (.tmp 24) (.tmp 25) rfl w2.heap.size (Value.slice (some ⟨w2.heap.size, 0, none⟩) 0 0) [] rfl HN2.out S1 l LL ai ci HLL.out rfl HI2.out HLN.out HS2.out ?_
       intro vv w4 hr4 hgr4 hn4
       have hB4 := HB2.out.trans (below_grown hgr4 HS2.out (by intro k hk; simp [Value.ownBlock] at hk; omega))
       obtain ⟨av, cv, rfl, _⟩ := ElRow.at (f := Value.int .i64) (e := 3) hr4
       obtain ⟨z0, z1⟩ := (K2.out.step hB4).box))
  all_goals
    have hv4 := World.ownsRow.lt hr4
    have hs4 := hB4.size
    have hst : OnSt (w4.alloc (.cells #[.slice a s.m.length c, .slice a' s.t.length c', .slice av l.length cv, .slice none 0 0, .slice none 0 0] 85)) w4.heap.size (w.heap.size + 1) s a c a' c' (.slice av l.length cv) (.slice none 0 0) (.slice none 0 0) l [] [] :=
      ⟨Blk.new w4 85 _, World.ownsRow.alloc (ownsRow_low (show NumRow w4 w2.heap.size (.slice av l.length cv) l from hr4) (by omega)) _, World.ownsRow_nil _ _ _ _, World.ownsRow_nil _ _ _ _, fun e => by have := (hv4 _ e).2; omega, fun e => by simp [Value.ownBlock] at e, fun e => by simp [Value.ownBlock] at e, fun b _ e => by simp [Value.ownBlock] at e, fun b _ e => by simp [Value.ownBlock] at e, fun b e _ => by simp [Value.ownBlock] at e⟩
    have hdok : DOk s l l [] := ⟨by simp, by simp, fun x hx => (gr_S HSO.out l).d0ok x (by rw [dnS_nil] at hx; exact hx), rfl, fun x _ => by
      rw [dnS_nil]
      unfold d0S
      cases hm : s.mdI x
      · rw [vsS_free HSO.out hm]; simp
      · simp⟩
    have H5 := Lib.hid (And.intro hst (And.intro hdok (And.intro ((K2.out.step hB4).alloc (.cells #[.slice a s.m.length c, .slice a' s.t.length c', .slice av l.length cv, .slice none 0 0, .slice none 0 0] 85)) ((Q2.out.below hB4).alloc (.cells #[.slice a s.m.length c, .slice a' s.t.length c', .slice av l.length cv, .slice none 0 0, .slice none 0 0] 85)))))
    have hq4 : w.heap.size + 1 ≤ w4.heap.size := by omega
    clear hv4 hst hdok hr4 hgr4 hn4 hB4 z0 z1 v0 v1 x0 x1 HN1 HN2 HI1 HI2 HLN HS1 HS2 HB1 HB2 hwlt hwne
    go_wp2_with fail
    go_loopw [9] (fun i wr => ∃ (k : Nat) (dv uv : Value) (vl D : List Int), k ≤ KL ∧ i = .int .i64 k ∧ OnSt wr w4.heap.size (w.heap.size + 1) s a c a' c' (.slice av l.length cv) dv uv vl D [] ∧ DOk s l vl D ∧ Ks (fun b => S0 b ∧ b < w.heap.size) s a c a' c' 32 w wr ∧ IntsAt wr (fun b => S2 b ∧ b < w.heap.size) ks ak ck ∧
      (∀ q o m, Ends emS (chS s l) (dnS s D) q o m → ∃ m', Ends emS (chS s l) (d0S s) (ks.take k ++ q) (D ++ o) m') ∧ (∀ x ∈ ks.take k, okS s l x = true)) (fun i _ => KL - (intOf i).toNat)
    case atStart => exact ⟨0, _, _, l, [], by omega, rfl, H5.out.1, H5.out.2.1, H5.out.2.2.1, H5.out.2.2.2, fun q o m h => ⟨m, by rw [dnS_nil] at h; exact h⟩, by simp⟩
    case round =>
      obtain ⟨k, dv, uv, vl, D, hk, rfl, hst, hdok, hKs, hki, hsim, hall⟩ := hrel
      have H6 := Lib.hid (And.intro hst (And.intro hdok (And.intro hKs (And.intro hki (And.intro hsim hall)))))
      have hws := hKs.size
      obtain ⟨y0, y1, y2, y3, y4, _⟩ := Blk.five hst.bd
      have hDl : D.length ≤ s.m.length := nodup_bound _ D hdok.nod (fun x hx => mdI_bd (hdok.md x hx))
      obtain ⟨ad, cd, rfl, hid⟩ := hst.d.at (fun x hx => by have := mdI_bd (hdok.md x hx); unfold i64ok; omega)
      have HID := Lib.hid hid
      clear H5 hst hdok hKs hki hsim hall hid
      by_cases hlt : k < KL
      · have hlt2 : k < ks.length := by have := HKL.out; omega
        obtain ⟨bk, ok, rfl, hbkl, _, hc⟩ := H6.out.2.2.2.1.get (Below.refl _ _) hlt2
        obtain ⟨key, hkey⟩ : ∃ key, key = ks[k] := ⟨_, rfl⟩
        have hkr : 0 ≤ key ∧ key < s.m.length := by
          have h := HHK.out
          unfold hkB at h
          rw [List.all_eq_true] at h
          have h := h ks[k] (List.getElem_mem _)
          rw [decide_eq_true_eq] at h
          rw [hkey]; exact h
        rw [← hkey] at hc
        have HKEY := Lib.hid hkey
        have HL2 := Lib.hid hlt2
        have hpre : KoPre (fun b => S0 b ∧ b < w.heap.size) s l w4.heap.size (w.heap.size + 1) a c a' c' (.slice av l.length cv) (.slice ad D.length cd) uv vl D [] key wr :=
          ⟨HI.out, H6.out.2.2.1.2, fun b hb => by have := hb.2; omega, hq4, H6.out.1, H6.out.2.1, hkr.1, by omega, Hyp.nil, by simp⟩
        have HCALL := Lib.hid (ko_all (s.m.length + 1) _ _ vl D [] key wr (by simp) hpre)
        have hge := H6.out.1.ge hq4
        have HGE := Lib.hid hge
        clear hkey hkr hpre hge HID
        go_wp2_with fail
        refine HCALL.out.mono ?_
        rintro e w6 ⟨dv2, uv2, vl2, D2, x, b2, rfl, hst2, hfr2, _, _, hor⟩
        have hK2 := H6.out.2.2.1.fr hfr2 HGE.out (fun _ h => h.2)
        have hk2 := H6.out.2.2.2.1.fr hfr2 (fun b hb h => by have := HGE.out b h; have := hb.2; omega)
        have H7 := Lib.hid (And.intro hst2 (And.intro hK2 hk2))
        clear hst2 hfr2 hK2 hk2 HCALL HGE y0 y1 y2 y3 y4
        rcases hor with ⟨rfl, hoky, _, hdok2, hdk2, X, hX, _, hvis⟩ | ⟨rfl, hnok⟩
        · have hsim2 := sim_step HL2.out H6.out.2.2.2.2.1 (by rw [← HKEY.out]; exact hvis)
          have hall2 : ∀ x ∈ ks.take (k + 1), okS s l x = true := fun x hx => by
            rw [List.take_succ_eq_append_getElem HL2.out, List.mem_append, List.mem_singleton] at hx
            rcases hx with hx | rfl
            · exact H6.out.2.2.2.2.2 x hx
            · rw [← HKEY.out]; exact hoky
          have H8 := Lib.hid (And.intro hdok2 (And.intro (show ∀ q o m, Ends emS (chS s l) (dnS s D2) q o m → ∃ m', Ends emS (chS s l) (d0S s) (ks.take (k + 1) ++ q) (D2 ++ o) m' from fun q o m h => by rw [hX]; exact hsim2 q o m h) hall2))
          clear hoky hdok2 hdk2 hX hvis hsim2 hall2
          go_wp2_with fail
          go_roundw
          case rel => exact ⟨k + 1, dv2, uv2, vl2, D2, by omega, by go_num, H7.out.1, H8.out.1, H7.out.2.1, H7.out.2.2, H8.out.2.1, H8.out.2.2⟩
          case measure => simp [intOf]; omega
        · have hno : suB s l ks = false := by
            unfold suB
            rw [all_fls HL2.out (by rw [← HKEY.out]; exact hnok), Bool.and_false]
          have HF := Lib.hid hno
          clear hnok hno
          go_wp2_with fail
          go_ret2
          exact HNO.out _ _ HF.out (H7.out.2.1.alloc _).done (ownsRow_low (rowN_new w6) (by have := H7.out.2.1.size; omega))
      · have hq : ks.take k = ks := List.take_of_length_le (by have := HKL.out; omega)
        have hyes : suB s l ks = true := by
          unfold suB
          rw [HI.out, HHK.out, Bool.true_and, Bool.true_and, List.all_eq_true]
          intro x hx
          exact H6.out.2.2.2.2.2 x (by rw [hq]; exact hx)
        have hends : ∃ m', Ends emS (chS s l) (d0S s) ks D m' := by
          obtain ⟨m', h⟩ := H6.out.2.2.2.2.1 [] [] 0 (.nil _)
          rw [hq, List.append_nil, List.append_nil] at h
          exact ⟨m', h⟩
        have HY := Lib.hid (And.intro hyes hends)
        have hqr : w4.heap.size < wr.heap.size := H6.out.1.bd.lt
        clear hq hyes hends
        go_wp2_with (at_builtin; refine wpList_append_ints _ rfl (.tmp 47) (.tmp 51) rfl wr.heap.size _ [] rfl (rowN_new wr) _ D D.length ad cd rfl rfl (HID.out.alloc _) ?d1 ?d2 ?_)
        case d1 => simp; omega
        case d2 => simp
        intro vr w7 hr7 hgr7 _
        have hB7 : Below wr.heap.size wr w7 := ((Below.refl wr.heap.size wr).alloc (Nat.le_refl _) (.cells #[] 3)).trans (below_grown hgr7 (by simp) (by intro k hk; simp [Value.ownBlock] at hk; omega))
        have H8 := Lib.hid (And.intro hr7 (H6.out.2.2.1.step hB7))
        clear hr7 hgr7 hB7
        go_wp2_with fail
        go_ret2
        obtain ⟨m', h⟩ := HY.out.2
        exact HYES.out _ _ _ _ HY.out.1 h H8.out.2.done (ownsRow_low H8.out.1 (by omega))
end Go.Proofs.Ytochgmbeomfkpaa
