/- DrawSheetOk -/
import Derived.Test.YtklmpagpkeffjaaSheetD
import Derived.Test.YtklmpagpkeffjaaDraw4
import Derived.Deep.RegionLaw
namespace Go.Proofs.Ytklmpagpkeffjaa
open Go.RowKit

theorem own_some' {w : World} {b : Nat} {e : TypeId} {size : Nat} {v : Value} {n : Nat} {xs : List Value} (h : w.ownsRow b e size v n xs) (hn : 0 < n) : ∃ g cap, v = .slice (some ⟨g, 0, none⟩) n cap ∧ b ≤ g ∧ g < w.heap.size := by
  obtain ⟨g, cap, rfl⟩ := own_some h hn
  exact ⟨g, cap, rfl, (World.ownsRow.lt h g rfl).1, (World.ownsRow.lt h g rfl).2⟩
/-- A bool of the row is set. -/
theorem BoolRow.set_ {w : World} {base g n cap : Nat} {l : List Bool} (h : BoolRow w base (.slice (some ⟨g, 0, none⟩) n cap) l) (i : Nat) (x : Bool) :
    BoolRow (w.setCell ⟨g, i, none⟩ (.bool x)) base (.slice (some ⟨g, 0, none⟩) n cap) (l.set i x) := by
  obtain ⟨hl, ⟨h1, _⟩ | ⟨g', cap', cur, h1, h2, h3, h4, h5, h6, h7⟩⟩ := h
  · simp at h1
  · simp only [Value.slice.injEq, Option.some.injEq, Addr.mk.injEq, and_true] at h1
    obtain ⟨rfl, rfl, rfl⟩ := h1
    refine ⟨by simp, .inr ⟨g, cap, cur.setIfInBounds i (.bool x), by rw [List.length_set], h2, ?_, by rw [List.length_set]; exact h4, h5, by simpa using h6, ?_⟩⟩
    · exact Blk.set_ (w := w) h3 i (.bool x)
    · rw [Array.toList_setIfInBounds, List.length_set, List.take_set, h7, List.map_set]
theorem ShD.setM {w : World} {B M g n cap : Nat} {s : Sh} {a' : Option Addr} {c' : Nat} (h : ShD w B M s (.slice (some ⟨g, 0, none⟩) n cap) a' c') (i : Nat) (x : Bool) :
    ShD (w.setCell ⟨g, i, none⟩ (.bool x)) B M ⟨s.m.set i x, s.t⟩ (.slice (some ⟨g, 0, none⟩) n cap) a' c' :=
  ⟨h.row.set_ i x, h.own, h.ow.setCell (fun b hb e => hb.2.2 (by rw [e]; rfl)) _, by have := h.le; simpa [World.setCell] using this⟩
theorem BoolRow.cell {w : World} {base g n cap : Nat} {l : List Bool} (h : BoolRow w base (.slice (some ⟨g, 0, none⟩) n cap) l) (i : Nat) (hi : i < l.length) :
    (∃ v, w.cell? ⟨g, i, none⟩ = some v) ∧ w.frozen? ⟨g, i, none⟩ = false := by
  have h' := h
  obtain ⟨_, ⟨hx, _⟩ | ⟨gb, cap', cur, hx, _, hh, _⟩⟩ := h
  · cases hx
  · simp only [Value.slice.injEq, Option.some.injEq, Addr.mk.injEq, and_true] at hx
    obtain ⟨rfl, _, _⟩ := hx
    have := World.ownsRow.cells h' (g := g) rfl i (.bool l[i]) (by rw [List.getElem?_map, List.getElem?_eq_getElem hi]; rfl)
    have e : (⟨g, 0, none⟩ : Addr).add i = ⟨g, 0 + i, none⟩ := by unfold Addr.add; split <;> simp_all
    rw [e, Nat.zero_add] at this
    exact ⟨⟨_, this⟩, Blk.frozen (w := w) hh i⟩
/-- A sheet that lies in no block X. -/
structure ShX (w : World) (B X : Nat) (s : Sh) (v : Value) (a' : Option Addr) (c' : Nat) : Prop where
  row : BoolRow w B v s.m
  own : ∀ b, v.ownBlock = some b → b ≠ X
  ow : OwS w 42 (fun b => B ≤ b ∧ b ≠ X) s.t a' c'
section
variable {w w' : World} {B X : Nat} {s : Sh} {v : Value} {a' : Option Addr} {c' : Nat}
theorem ShX.of (h : ShD w B X s v a' c') : ShX w B X s v a' c' := ⟨h.row, fun b hb => by have := h.own b hb; omega, h.ow.weaken (fun b hb => ⟨hb.1, by omega⟩)⟩
theorem ShX.set_ (h : ShX w B X s v a' c') (p : Addr) (u : Value) (hp : p.block < B ∨ p.block = X) : ShX (w.setCell p u) B X s v a' c' :=
  ⟨ownsRow_setCell_other h.row (fun e => by have := h.own _ e; have := own_ge h.row _ e; omega) u, h.own, h.ow.setCell (fun b hb e => by omega) u⟩
theorem ShX.at (h : ShX w B X s v a' c') : ∃ a c, v = .slice a s.m.length c ∧ ShAt w (fun _ => True) s a c a' c' := by
  obtain ⟨a, c, rfl, h2⟩ := ElRow.at h.row
  exact ⟨a, c, rfl, ElAt.keep (fun _ _ => trivial) (fun _ _ _ => rfl) h2, h.ow.at.weaken (fun _ _ => trivial)⟩
/-- One bool more. -/
theorem ShX.push {N : Nat} {x : Bool} {v' : Value} (h : ShD w B X s v a' c') (hN : s.m.length = N) (hX : X < w.heap.size) (hown : w'.ownsRow B 4 1 v' (N + 1) (s.m.map Value.bool ++ [.bool x])) (hgr : w.grownBy w' v.ownBlock) (hv : ∀ b, v'.ownBlock = some b → v.ownBlock = some b ∨ w.heap.size ≤ b) :
    ShX w' B X ⟨s.m ++ [x], s.t⟩ v' a' c' := by
  subst hN
  refine ⟨?_, fun b hb => ?_, ?_⟩
  · unfold BoolRow ElRow
    simp only [List.length_append, List.length_singleton, List.map_append, List.map_cons, List.map_nil]
    exact hown
  · rcases hv b hb with h1 | h1
    · have := h.own b h1; omega
    · omega
  · exact h.ow.keep (fun b hb => ⟨hb.1, by omega⟩) (fun b hb hl => hgr.block b hl (fun e => hb.2.2 e.symm))
theorem ShD.rowN {N : Nat} {M : Nat} (h : ShD w B M s v a' c') (hN : s.m.length = N) : w.ownsRow B 4 1 v N (s.m.map Value.bool) := by subst hN; exact h.row
end

/-- A sheet was drawn off a code, be it one or not. -/
def ShODr (w : World) (e : Ending) (w' : World) : Prop := ∃ (s : Sh) (a : Option Addr) (c : Nat) (a' : Option Addr) (c' : Nat), e = .returned (.agg #[.slice a s.m.length c, .slice a' s.t.length c']) ∧ ShAt w' (fun _ => True) s a c a' c' ∧ s.m.length ≤ 9 ∧ nodesL s.t ≤ 120 ∧ Below w.heap.size w w'

set_option maxRecDepth 100000 in
set_option maxHeartbeats 2000000 in
theorem drawSheetOk_any (w : World) (a : Option Addr) (n c : Nat) (h : CodeAt w a n c) : Calls Try.prog 13 #[.slice a n c] w (ShODr w) := by
  obtain ⟨iB, bi, bz0, bz1, bz2⟩ := info_parts infoBool
  have HIB := Lib.hid (And.intro bi (And.intro bz0 (And.intro bz1 bz2)))
  have hml : maxLen = 9223372036854775807 := rfl
  have HML := Lib.hid hml
  have HC := Lib.hid (h.alloc (.cells #[.slice none 0 0, .slice none 0 0] 26))
  clear h bi bz0 bz1 bz2 hml
  go_enter Try.func13, Try.ntmps13
  go_wp2_with fail
  refine (open_any _ a n c HC.out).mono ?_
  rintro e w1 ⟨rfl, hrd, hb⟩
  have hsz1 := hb.size
  simp only [World.size_alloc] at hsz1 hrd hb
  have HK1 := Lib.hid ((Blk.new w 26 #[.slice none 0 0, .slice none 0 0]).below hb (by omega))
  have HE1 := Lib.hid (And.intro hrd (below_of_box hb))
  have hlt1 : w.heap.size + 1 < w1.heap.size := hrd.lt
  clear hrd hb HC
  go_wp2_with fail
  refine (sheetD_any _ (w.heap.size + 1) 0 ?_ (by omega)).mono ?_
  · exact HE1.out.1
  rintro e w2 ⟨s, v, a', c', q, rfl, hsh, htl, hml, hnl, _, hq2, hrd, ho⟩
  obtain ⟨av, cv, rfl, _⟩ := ElRow.at hsh.row
  have hsz2 := ho.size
  have HK2 := Lib.hid ((HK1.out.only ho (by omega)).alloc (.cells #[.slice av s.m.length cv, .slice a' s.t.length c'] 26))
  have HT2 := Lib.hid (Blk.new w2 26 #[.slice av s.m.length cv, .slice a' s.t.length c'])
  have hB2 : Below w.heap.size w w2 := HE1.out.2.trans ⟨ho.os, ho.tape, ho.output, ho.size, fun k hk => ho.block k (by omega) (by intro e; injection e; omega)⟩
  have HX2 := Lib.hid (hB2.alloc (by omega) (.cells #[.slice av s.m.length cv, .slice a' s.t.length c'] 26))
  have HS2 := Lib.hid (hsh.alloc (.cells #[.slice av s.m.length cv, .slice a' s.t.length c'] 26))
  have HR2 := Lib.hid (hrd.alloc (.cells #[.slice av s.m.length cv, .slice a' s.t.length c'] 26))
  clear hrd ho hB2 HK1 HE1 hsh htl
  go_wp2_with fail
  refine (pick_any _ (w.heap.size + 1) q 5 HR2.out (by omega) (by omega) (by omega)).mono ?_
  rintro e w3 ⟨r, rfl, h0, h1, hrd, ho⟩
  have hs3 := ho.size
  simp only [World.size_alloc] at hs3
  have HK3 := Lib.hid (HK2.out.only ho (by omega))
  have HT3 := Lib.hid (HT2.out.only ho (by omega))
  have HX3 := Lib.hid (show Below w.heap.size w w3 from HX2.out.trans ⟨ho.os, ho.tape, ho.output, ho.size, fun k hk => ho.block k (by simp; omega) (by intro e; injection e; omega)⟩)
  have HS3 := Lib.hid (HS2.out.only ho (by omega))
  have HR3 := Lib.hid hrd
  have hw23 : w2.heap.size < w3.heap.size := by omega
  have hw12 : w1.heap.size ≤ w2.heap.size := hsz2
  have hq : q ≤ 400 := by omega
  clear h1 hrd ho HK2 HT2 HX2 HS2 HR2 hs3 hsz2 hq2
  obtain ⟨x0, x1, _, _⟩ := HT3.out.two
  by_cases hr0 : r = 0 ∧ 0 < s.m.length
  · obtain ⟨rfl, hm0⟩ := hr0
    have hgt : decide ((0 : Int) < (s.m.length : Int)) = true := decide_eq_true (by omega)
    obtain ⟨g, cap, hg, hgb, hgl⟩ := own_some' HS3.out.row hm0
    obtain ⟨rfl, rfl⟩ : av = some ⟨g, 0, none⟩ ∧ cv = cap := by
      simp only [Value.slice.injEq] at hg
      exact ⟨hg.1, hg.2.2⟩
    have hgM := HS3.out.own g rfl
    have HP1 := Lib.hid (pick_any w3.drew (w.heap.size + 1) (q + 1) (s.m.length : Int) (HR3.out.keep (fun _ _ => rfl)) (by omega) (by omega) (by omega))
    have HP2 := Lib.hid (fun (w5 : World) (hr : RdAt w5 (w.heap.size + 1) (q + 1 + 1)) => pick_any w5 (w.heap.size + 1) (q + 1 + 1) 2 hr (by omega) (by omega) (by omega))
    have HTD := Lib.hid (show ∀ w4, Only (w.heap.size + 1) w3.drew w4 → Blk w4 w2.heap.size 26 #[.slice (some ⟨g, 0, none⟩) s.m.length cv, .slice a' s.t.length c'] from fun w4 ho => Blk.only (w := w3.drew) HT3.out ho (by omega))
    have HCD := Lib.hid (show ∀ w6, Only (w.heap.size + 1) w3.drew w6 → ∀ i, i < s.m.length → (∃ v, w6.cell? ⟨g, i, none⟩ = some v) ∧ w6.frozen? ⟨g, i, none⟩ = false from fun w6 ho i hi => ((HS3.out.fr (D := fun _ => False) (Fr.of_below (Below.refl _ _).drew) (fun _ h => h.elim)).only ho (by omega)).row.cell i hi)
    clear hg
    go_wp2_with fail
    go_region_law (first
      | ((fail_if_success (have := hrd5))
         go_simp
         go_at_call 47
         refine HP1.out.mono ?_
         rintro e w5 ⟨r5, rfl, k0, k1, hrd5, ho5⟩
         obtain ⟨z0, z1, _, _⟩ := (HTD.out w5 ho5).two
         have hr5 := k1 (by omega)
         have hs5 : w3.heap.size ≤ w5.heap.size := ho5.size)
      | ((fail_if_success (have := hrd6))
         go_simp
         go_at_call 47
         refine (HP2.out w5 hrd5).mono ?_
         rintro e w6 ⟨r6, rfl, l0, l1, hrd6, ho6⟩
         obtain ⟨y0, y1, _, _⟩ := (HTD.out w6 (ho5.trans ho6)).two
         obtain ⟨⟨vc, y2⟩, y3⟩ := HCD.out w6 (ho5.trans ho6) r5.toNat (by omega)
         have hs6 : w3.heap.size ≤ w6.heap.size := Nat.le_trans hs5 ho6.size))
    all_goals
      obtain ⟨ms, hms⟩ : ∃ ms, ms = s.m.set r5.toNat (r6 == 0) := ⟨_, rfl⟩
      obtain ⟨w4, hw4⟩ : ∃ W, W = w6.setCell ⟨g, r5.toNat, none⟩ (.bool (r6 == 0)) := ⟨_, rfl⟩
      rw [← hw4]
      have ho6' : Only (w.heap.size + 1) w3.drew w6 := ho5.trans ho6
      have HMS := Lib.hid (show ms.length = s.m.length by rw [hms]; simp)
      have HS4 := Lib.hid (show ShD w4 w1.heap.size w2.heap.size ⟨ms, s.t⟩ (.slice (some ⟨g, 0, none⟩) s.m.length cv) a' c' by rw [hw4, hms]; exact ((HS3.out.fr (D := fun _ => False) (Fr.of_below (Below.refl _ _).drew) (fun _ h => h.elim)).only ho6' (by omega)).setM r5.toNat (r6 == 0))
      have HT4 := Lib.hid (show Blk w4 w2.heap.size 26 #[.slice (some ⟨g, 0, none⟩) s.m.length cv, .slice a' s.t.length c'] by rw [hw4]; exact (HTD.out w6 ho6').far (p := ⟨g, r5.toNat, none⟩) (by simp; omega) _)
      have HK4 := Lib.hid (show Blk w4 w.heap.size 26 #[.slice none 0 0, .slice none 0 0] by rw [hw4]; exact (Blk.only (w := w3.drew) HK3.out ho6' (by omega)).far (p := ⟨g, r5.toNat, none⟩) (by simp; omega) _)
      have HR4 := Lib.hid (show RdAt w4 (w.heap.size + 1) (q + 1 + 1 + 1) by rw [hw4]; exact hrd6.keep (fun k hk => Below.heap_setCell _ _ _ _ (by simp; omega)))
      have HX4 := Lib.hid (show Below w.heap.size w w4 by rw [hw4]; exact (HX3.out.drew.trans ⟨ho6'.os, ho6'.tape, ho6'.output, ho6'.size, fun k hk => ho6'.block k (by simp; omega) (by intro e; injection e; omega)⟩).setCell (by simp; omega) _)
      have hs4 : w2.heap.size < w4.heap.size := by rw [hw4]; simp [World.setCell]; omega
      clear hms hw4 y2 y3 x0 x1 z0 z1 y0 y1 HK3 HT3 HX3 HS3 HR3 HP1 HP2 HTD HCD hrd5 ho5 hrd6 ho6 ho6' hs5 hs6 k0 k1 hr5 l0 l1 hgt
      obtain ⟨x0, x1, _, _⟩ := HT4.out.two
      go_wp2_with fail
      refine (pick_any _ (w.heap.size + 1) (q + 1 + 1 + 1) 10 HR4.out (by omega) (by omega) (by omega)).mono ?_
      rintro e w8 ⟨r8, rfl, _, _, hrd, ho⟩
      have hs8 := ho.size
      have HK8 := Lib.hid (HK4.out.only ho (by omega))
      have HT8 := Lib.hid (HT4.out.only ho (by omega))
      have HX8 := Lib.hid (show Below w.heap.size w w8 from HX4.out.trans ⟨ho.os, ho.tape, ho.output, ho.size, fun k hk => ho.block k (by omega) (by intro e; injection e; omega)⟩)
      have HS8 := Lib.hid (HS4.out.only ho (by omega))
      clear hrd ho x0 x1 HK4 HT4 HX4 HS4 HR4
      have hw28 : w2.heap.size < w8.heap.size := by omega
      by_cases hr8 : r8 = 0
      · subst hr8
        obtain ⟨x0, x1, f0, f1⟩ := HT8.out.two
        go_wp2_with (at_builtin; refine wpList_append_row _ rfl (.tmp 33) (.tmp 34) 23 rfl (w1.heap.size) 4 iB (.bool false) 1 1 Try.underlying23 HIB.out.1 HIB.out.2.1 HIB.out.2.2.1 HIB.out.2.2.2 rfl (by decide) _ s.m.length (ms.map Value.bool) rfl (World.ownsRow.alloc (HS8.out.rowN HMS.out) _) ⟨w8.heap.size, 0, none⟩ 1 1 [.bool false] rfl rfl ?aa1 ?aa2 (by decide) ?aa3 ?aa4 ?aa5 ?_)
        case aa1 => exact news1 _ _ _
        case aa2 => simp [Value.oneCell']
        case aa3 => rw [HML.out]; omega
        case aa4 => omega
        case aa5 => simp; omega
        intro v9 w9 hown hgr hnv
        have hzz := ShX.push (HS8.out.alloc (.cells #[.bool false] 4)) HMS.out (by simp; omega) hown hgr (by simpa using hnv)
        have hge := own_ge (HS8.out.rowN HMS.out)
        have hlo := HS8.out.own
        have hkk := (HK8.out.alloc (.cells #[.bool false] 4)).fr' (grownBy_fr hgr) (fun hd => by have := hge _ hd; omega)
        have HT9 := Lib.hid ((HT8.out.alloc (.cells #[.bool false] 4)).fr' (grownBy_fr hgr) (fun hd => by have := hlo _ hd; omega))
        have hf := grownBy_fr hgr
        have hxx : Below w.heap.size w w9 := (HX8.out.alloc HX8.out.size (.cells #[.bool false] 4)).trans ⟨hf.1, hf.2.1, hf.2.2.1, hf.2.2.2.1, fun k hk => hf.2.2.2.2 k (by have := HX8.out.size; simp; omega) (fun hd => by have := hge _ hd; omega)⟩
        have hs9 : w8.heap.size ≤ w9.heap.size := Nat.le_trans (by simp) hgr.size
        obtain ⟨av9, cv9, e9, _⟩ := ElRow.at hzz.row
        rw [show (⟨ms ++ [false], s.t⟩ : Sh).m.length = s.m.length + 1 by have := HMS.out; simp [this]] at e9
        subst e9
        have HZ9 := Lib.hid hzz
        have HK9 := Lib.hid hkk
        have HX9 := Lib.hid hxx
        clear hown hgr hge hlo hf hnv hzz hkk hxx x0 x1 f0 f1 HK8 HT8 HX8 HS8
        obtain ⟨x0, x1, f0, f1⟩ := HT9.out.two
        go_upto_region 7 with (fail)
        clear x0 x1 f0 f1
        obtain ⟨w10, hw10⟩ : ∃ W, W = w9.setCell ⟨w2.heap.size, 0, none⟩ (.slice av9 (s.m.length + 1) cv9) := ⟨_, rfl⟩
        rw [← hw10]
        have HK10 := Lib.hid (show Blk w10 w.heap.size 26 #[.slice none 0 0, .slice none 0 0] by rw [hw10]; exact HK9.out.far (p := ⟨w2.heap.size, 0, none⟩) (by simp; omega) _)
        have HT10 := Lib.hid (show Blk w10 w2.heap.size 26 #[.slice av9 (s.m.length + 1) cv9, .slice a' s.t.length c'] by rw [hw10]; exact HT9.out.set_ 0 (.slice av9 (s.m.length + 1) cv9))
        have HX10 := Lib.hid (show Below w.heap.size w w10 by rw [hw10]; exact HX9.out.setCell (by simp; omega) _)
        have HZ10 := Lib.hid (show ShX w10 w1.heap.size w2.heap.size ⟨ms ++ [false], s.t⟩ (.slice av9 (s.m.length + 1) cv9) a' c' by rw [hw10]; exact HZ9.out.set_ ⟨w2.heap.size, 0, none⟩ _ (.inr rfl))
        have hs10 : w8.heap.size ≤ w10.heap.size := by rw [hw10]; simpa [World.setCell] using hs9
        clear hw10 hs9 HK9 HT9 HX9 HZ9
        obtain ⟨x0, x1, f0, f1⟩ := HK10.out.two
        obtain ⟨y0, y1, _, _⟩ := HT10.out.two
        have hz : w.heap.size < w10.heap.size := by omega
        go_wp2_with fail
        have hb5 := (HK10.out.set_ 0 (.slice av9 (s.m.length + 1) cv9)).set_ 1 (.slice a' s.t.length c')
        obtain ⟨z0, z1, _, _⟩ := (show Blk _ w.heap.size 26 #[(.slice av9 (s.m.length + 1) cv9), .slice a' s.t.length c'] from hb5).two
        refine bodyPost_ret (v := .agg #[(.slice av9 (s.m.length + 1) cv9), .slice a' s.t.length c']) (by simp only [results, Try.results13]; simp [go_sem, z0, z1]) rfl ?_
        have h1 := (HZ10.out.set_ ⟨w.heap.size, 0, none⟩ (.slice av9 (s.m.length + 1) cv9) (.inl (by simp; omega))).set_ ⟨w.heap.size, 1, none⟩ (.slice a' s.t.length c') (.inl (by simp; omega))
        obtain ⟨a6, c6, e6, h2⟩ := h1.at
        exact ⟨⟨ms ++ [false], s.t⟩, a6, c6, a', c', by rw [← e6], h2, by have := HMS.out; simp; omega, hnl, (HX10.out.setCell (Nat.le_refl _) _).setCell (Nat.le_refl _) _⟩
      · have hr8b : (r8 == 0) = false := by simp [hr8]
        clear hr8
        have HZ8 := Lib.hid (ShX.of HS8.out)
        clear HS8
        obtain ⟨x0, x1, f0, f1⟩ := HK8.out.two
        obtain ⟨y0, y1, _, _⟩ := HT8.out.two
        have hz : w.heap.size < w8.heap.size := by omega
        go_wp2_with fail
        have hb5 := (HK8.out.set_ 0 (.slice (some ⟨g, 0, none⟩) s.m.length cv)).set_ 1 (.slice a' s.t.length c')
        obtain ⟨z0, z1, _, _⟩ := (show Blk _ w.heap.size 26 #[(.slice (some ⟨g, 0, none⟩) s.m.length cv), .slice a' s.t.length c'] from hb5).two
        refine bodyPost_ret (v := .agg #[(.slice (some ⟨g, 0, none⟩) s.m.length cv), .slice a' s.t.length c']) (by simp only [results, Try.results13]; simp [go_sem, z0, z1]) rfl ?_
        have h1 := (HZ8.out.set_ ⟨w.heap.size, 0, none⟩ (.slice (some ⟨g, 0, none⟩) s.m.length cv) (.inl (by simp; omega))).set_ ⟨w.heap.size, 1, none⟩ (.slice a' s.t.length c') (.inl (by simp; omega))
        obtain ⟨a6, c6, e6, h2⟩ := h1.at
        exact ⟨⟨ms, s.t⟩, a6, c6, a', c', by rw [← e6], h2, by have := HMS.out; simp; omega, hnl, (HX8.out.setCell (Nat.le_refl _) _).setCell (Nat.le_refl _) _⟩
  · obtain ⟨ms, hms⟩ : ∃ ms, ms = s.m := ⟨_, rfl⟩
    by_cases hr1 : r = 0
    · subst hr1
      have hm0 : s.m.length = 0 := by omega
      have hgt : decide ((0 : Int) < (s.m.length : Int)) = false := decide_eq_false (by omega)
      have hgn : decide (0 < s.m.length) = false := decide_eq_false (by omega)
      have HMS := Lib.hid (show ms.length = s.m.length by rw [hms])
      have HS4 := Lib.hid (show ShD w3 w1.heap.size w2.heap.size ⟨ms, s.t⟩ (.slice av s.m.length cv) a' c' by rw [hms]; exact HS3.out)
      have HT4 := HT3
      have HK4 := HK3
      have HR4 := HR3
      have HX4 := HX3
      have hs4 := hw23
      clear hr0 hm0 hms HK3 HT3 HX3 HS3 HR3
      go_upto_region 5 with (fail)
      clear x0 x1 hgt hgn
      obtain ⟨x0, x1, _, _⟩ := HT4.out.two
      go_wp2_with fail
      refine (pick_any _ (w.heap.size + 1) (q + 1) 10 HR4.out (by omega) (by omega) (by omega)).mono ?_
      rintro e w8 ⟨r8, rfl, _, _, hrd, ho⟩
      have hs8 := ho.size
      have HK8 := Lib.hid (HK4.out.only ho (by omega))
      have HT8 := Lib.hid (HT4.out.only ho (by omega))
      have HX8 := Lib.hid (show Below w.heap.size w w8 from HX4.out.trans ⟨ho.os, ho.tape, ho.output, ho.size, fun k hk => ho.block k (by omega) (by intro e; injection e; omega)⟩)
      have HS8 := Lib.hid (HS4.out.only ho (by omega))
      clear hrd ho x0 x1 HK4 HT4 HX4 HS4 HR4
      have hw28 : w2.heap.size < w8.heap.size := by omega
      by_cases hr8 : r8 = 0
      · subst hr8
        obtain ⟨x0, x1, f0, f1⟩ := HT8.out.two
        go_wp2_with (at_builtin; refine wpList_append_row _ rfl (.tmp 33) (.tmp 34) 23 rfl (w1.heap.size) 4 iB (.bool false) 1 1 Try.underlying23 HIB.out.1 HIB.out.2.1 HIB.out.2.2.1 HIB.out.2.2.2 rfl (by decide) _ s.m.length (ms.map Value.bool) rfl (World.ownsRow.alloc (HS8.out.rowN HMS.out) _) ⟨w8.heap.size, 0, none⟩ 1 1 [.bool false] rfl rfl ?bb1 ?bb2 (by decide) ?bb3 ?bb4 ?bb5 ?_)
        case bb1 => exact news1 _ _ _
        case bb2 => simp [Value.oneCell']
        case bb3 => rw [HML.out]; omega
        case bb4 => omega
        case bb5 => simp; omega
        intro v9 w9 hown hgr hnv
        have hzz := ShX.push (HS8.out.alloc (.cells #[.bool false] 4)) HMS.out (by simp; omega) hown hgr (by simpa using hnv)
        have hge := own_ge (HS8.out.rowN HMS.out)
        have hlo := HS8.out.own
        have hkk := (HK8.out.alloc (.cells #[.bool false] 4)).fr' (grownBy_fr hgr) (fun hd => by have := hge _ hd; omega)
        have HT9 := Lib.hid ((HT8.out.alloc (.cells #[.bool false] 4)).fr' (grownBy_fr hgr) (fun hd => by have := hlo _ hd; omega))
        have hf := grownBy_fr hgr
        have hxx : Below w.heap.size w w9 := (HX8.out.alloc HX8.out.size (.cells #[.bool false] 4)).trans ⟨hf.1, hf.2.1, hf.2.2.1, hf.2.2.2.1, fun k hk => hf.2.2.2.2 k (by have := HX8.out.size; simp; omega) (fun hd => by have := hge _ hd; omega)⟩
        have hs9 : w8.heap.size ≤ w9.heap.size := Nat.le_trans (by simp) hgr.size
        obtain ⟨av9, cv9, e9, _⟩ := ElRow.at hzz.row
        rw [show (⟨ms ++ [false], s.t⟩ : Sh).m.length = s.m.length + 1 by have := HMS.out; simp [this]] at e9
        subst e9
        have HZ9 := Lib.hid hzz
        have HK9 := Lib.hid hkk
        have HX9 := Lib.hid hxx
        clear hown hgr hge hlo hf hnv hzz hkk hxx x0 x1 f0 f1 HK8 HT8 HX8 HS8
        obtain ⟨x0, x1, f0, f1⟩ := HT9.out.two
        go_upto_region 7 with (fail)
        clear x0 x1 f0 f1
        obtain ⟨w10, hw10⟩ : ∃ W, W = w9.setCell ⟨w2.heap.size, 0, none⟩ (.slice av9 (s.m.length + 1) cv9) := ⟨_, rfl⟩
        rw [← hw10]
        have HK10 := Lib.hid (show Blk w10 w.heap.size 26 #[.slice none 0 0, .slice none 0 0] by rw [hw10]; exact HK9.out.far (p := ⟨w2.heap.size, 0, none⟩) (by simp; omega) _)
        have HT10 := Lib.hid (show Blk w10 w2.heap.size 26 #[.slice av9 (s.m.length + 1) cv9, .slice a' s.t.length c'] by rw [hw10]; exact HT9.out.set_ 0 (.slice av9 (s.m.length + 1) cv9))
        have HX10 := Lib.hid (show Below w.heap.size w w10 by rw [hw10]; exact HX9.out.setCell (by simp; omega) _)
        have HZ10 := Lib.hid (show ShX w10 w1.heap.size w2.heap.size ⟨ms ++ [false], s.t⟩ (.slice av9 (s.m.length + 1) cv9) a' c' by rw [hw10]; exact HZ9.out.set_ ⟨w2.heap.size, 0, none⟩ _ (.inr rfl))
        have hs10 : w8.heap.size ≤ w10.heap.size := by rw [hw10]; simpa [World.setCell] using hs9
        clear hw10 hs9 HK9 HT9 HX9 HZ9
        obtain ⟨x0, x1, f0, f1⟩ := HK10.out.two
        obtain ⟨y0, y1, _, _⟩ := HT10.out.two
        have hz : w.heap.size < w10.heap.size := by omega
        go_wp2_with fail
        have hb5 := (HK10.out.set_ 0 (.slice av9 (s.m.length + 1) cv9)).set_ 1 (.slice a' s.t.length c')
        obtain ⟨z0, z1, _, _⟩ := (show Blk _ w.heap.size 26 #[(.slice av9 (s.m.length + 1) cv9), .slice a' s.t.length c'] from hb5).two
        refine bodyPost_ret (v := .agg #[(.slice av9 (s.m.length + 1) cv9), .slice a' s.t.length c']) (by simp only [results, Try.results13]; simp [go_sem, z0, z1]) rfl ?_
        have h1 := (HZ10.out.set_ ⟨w.heap.size, 0, none⟩ (.slice av9 (s.m.length + 1) cv9) (.inl (by simp; omega))).set_ ⟨w.heap.size, 1, none⟩ (.slice a' s.t.length c') (.inl (by simp; omega))
        obtain ⟨a6, c6, e6, h2⟩ := h1.at
        exact ⟨⟨ms ++ [false], s.t⟩, a6, c6, a', c', by rw [← e6], h2, by have := HMS.out; simp; omega, hnl, (HX10.out.setCell (Nat.le_refl _) _).setCell (Nat.le_refl _) _⟩
      · have hr8b : (r8 == 0) = false := by simp [hr8]
        clear hr8
        have HZ8 := Lib.hid (ShX.of HS8.out)
        clear HS8
        obtain ⟨x0, x1, f0, f1⟩ := HK8.out.two
        obtain ⟨y0, y1, _, _⟩ := HT8.out.two
        have hz : w.heap.size < w8.heap.size := by omega
        go_wp2_with fail
        have hb5 := (HK8.out.set_ 0 (.slice av s.m.length cv)).set_ 1 (.slice a' s.t.length c')
        obtain ⟨z0, z1, _, _⟩ := (show Blk _ w.heap.size 26 #[(.slice av s.m.length cv), .slice a' s.t.length c'] from hb5).two
        refine bodyPost_ret (v := .agg #[(.slice av s.m.length cv), .slice a' s.t.length c']) (by simp only [results, Try.results13]; simp [go_sem, z0, z1]) rfl ?_
        have h1 := (HZ8.out.set_ ⟨w.heap.size, 0, none⟩ (.slice av s.m.length cv) (.inl (by simp; omega))).set_ ⟨w.heap.size, 1, none⟩ (.slice a' s.t.length c') (.inl (by simp; omega))
        obtain ⟨a6, c6, e6, h2⟩ := h1.at
        exact ⟨⟨ms, s.t⟩, a6, c6, a', c', by rw [← e6], h2, by have := HMS.out; simp; omega, hnl, (HX8.out.setCell (Nat.le_refl _) _).setCell (Nat.le_refl _) _⟩
    · have hr1b : (r == 0) = false := by simp [hr1]
      clear hr1 hr0
      have HMS := Lib.hid (show ms.length = s.m.length by rw [hms])
      have HS4 := Lib.hid (show ShD w3 w1.heap.size w2.heap.size ⟨ms, s.t⟩ (.slice av s.m.length cv) a' c' by rw [hms]; exact HS3.out)
      have HT4 := HT3
      have HK4 := HK3
      have HR4 := HR3
      have HX4 := HX3
      have hs4 := hw23
      clear hms HK3 HT3 HX3 HS3 HR3
      go_upto_region 5 with (fail)
      clear x0 x1 hr1b
      obtain ⟨x0, x1, _, _⟩ := HT4.out.two
      go_wp2_with fail
      refine (pick_any _ (w.heap.size + 1) (q + 1) 10 HR4.out (by omega) (by omega) (by omega)).mono ?_
      rintro e w8 ⟨r8, rfl, _, _, hrd, ho⟩
      have hs8 := ho.size
      have HK8 := Lib.hid (HK4.out.only ho (by omega))
      have HT8 := Lib.hid (HT4.out.only ho (by omega))
      have HX8 := Lib.hid (show Below w.heap.size w w8 from HX4.out.trans ⟨ho.os, ho.tape, ho.output, ho.size, fun k hk => ho.block k (by omega) (by intro e; injection e; omega)⟩)
      have HS8 := Lib.hid (HS4.out.only ho (by omega))
      clear hrd ho x0 x1 HK4 HT4 HX4 HS4 HR4
      have hw28 : w2.heap.size < w8.heap.size := by omega
      by_cases hr8 : r8 = 0
      · subst hr8
        obtain ⟨x0, x1, f0, f1⟩ := HT8.out.two
        go_wp2_with (at_builtin; refine wpList_append_row _ rfl (.tmp 33) (.tmp 34) 23 rfl (w1.heap.size) 4 iB (.bool false) 1 1 Try.underlying23 HIB.out.1 HIB.out.2.1 HIB.out.2.2.1 HIB.out.2.2.2 rfl (by decide) _ s.m.length (ms.map Value.bool) rfl (World.ownsRow.alloc (HS8.out.rowN HMS.out) _) ⟨w8.heap.size, 0, none⟩ 1 1 [.bool false] rfl rfl ?cc1 ?cc2 (by decide) ?cc3 ?cc4 ?cc5 ?_)
        case cc1 => exact news1 _ _ _
        case cc2 => simp [Value.oneCell']
        case cc3 => rw [HML.out]; omega
        case cc4 => omega
        case cc5 => simp; omega
        intro v9 w9 hown hgr hnv
        have hzz := ShX.push (HS8.out.alloc (.cells #[.bool false] 4)) HMS.out (by simp; omega) hown hgr (by simpa using hnv)
        have hge := own_ge (HS8.out.rowN HMS.out)
        have hlo := HS8.out.own
        have hkk := (HK8.out.alloc (.cells #[.bool false] 4)).fr' (grownBy_fr hgr) (fun hd => by have := hge _ hd; omega)
        have HT9 := Lib.hid ((HT8.out.alloc (.cells #[.bool false] 4)).fr' (grownBy_fr hgr) (fun hd => by have := hlo _ hd; omega))
        have hf := grownBy_fr hgr
        have hxx : Below w.heap.size w w9 := (HX8.out.alloc HX8.out.size (.cells #[.bool false] 4)).trans ⟨hf.1, hf.2.1, hf.2.2.1, hf.2.2.2.1, fun k hk => hf.2.2.2.2 k (by have := HX8.out.size; simp; omega) (fun hd => by have := hge _ hd; omega)⟩
        have hs9 : w8.heap.size ≤ w9.heap.size := Nat.le_trans (by simp) hgr.size
        obtain ⟨av9, cv9, e9, _⟩ := ElRow.at hzz.row
        rw [show (⟨ms ++ [false], s.t⟩ : Sh).m.length = s.m.length + 1 by have := HMS.out; simp [this]] at e9
        subst e9
        have HZ9 := Lib.hid hzz
        have HK9 := Lib.hid hkk
        have HX9 := Lib.hid hxx
        clear hown hgr hge hlo hf hnv hzz hkk hxx x0 x1 f0 f1 HK8 HT8 HX8 HS8
        obtain ⟨x0, x1, f0, f1⟩ := HT9.out.two
        go_upto_region 7 with (fail)
        clear x0 x1 f0 f1
        obtain ⟨w10, hw10⟩ : ∃ W, W = w9.setCell ⟨w2.heap.size, 0, none⟩ (.slice av9 (s.m.length + 1) cv9) := ⟨_, rfl⟩
        rw [← hw10]
        have HK10 := Lib.hid (show Blk w10 w.heap.size 26 #[.slice none 0 0, .slice none 0 0] by rw [hw10]; exact HK9.out.far (p := ⟨w2.heap.size, 0, none⟩) (by simp; omega) _)
        have HT10 := Lib.hid (show Blk w10 w2.heap.size 26 #[.slice av9 (s.m.length + 1) cv9, .slice a' s.t.length c'] by rw [hw10]; exact HT9.out.set_ 0 (.slice av9 (s.m.length + 1) cv9))
        have HX10 := Lib.hid (show Below w.heap.size w w10 by rw [hw10]; exact HX9.out.setCell (by simp; omega) _)
        have HZ10 := Lib.hid (show ShX w10 w1.heap.size w2.heap.size ⟨ms ++ [false], s.t⟩ (.slice av9 (s.m.length + 1) cv9) a' c' by rw [hw10]; exact HZ9.out.set_ ⟨w2.heap.size, 0, none⟩ _ (.inr rfl))
        have hs10 : w8.heap.size ≤ w10.heap.size := by rw [hw10]; simpa [World.setCell] using hs9
        clear hw10 hs9 HK9 HT9 HX9 HZ9
        obtain ⟨x0, x1, f0, f1⟩ := HK10.out.two
        obtain ⟨y0, y1, _, _⟩ := HT10.out.two
        have hz : w.heap.size < w10.heap.size := by omega
        go_wp2_with fail
        have hb5 := (HK10.out.set_ 0 (.slice av9 (s.m.length + 1) cv9)).set_ 1 (.slice a' s.t.length c')
        obtain ⟨z0, z1, _, _⟩ := (show Blk _ w.heap.size 26 #[(.slice av9 (s.m.length + 1) cv9), .slice a' s.t.length c'] from hb5).two
        refine bodyPost_ret (v := .agg #[(.slice av9 (s.m.length + 1) cv9), .slice a' s.t.length c']) (by simp only [results, Try.results13]; simp [go_sem, z0, z1]) rfl ?_
        have h1 := (HZ10.out.set_ ⟨w.heap.size, 0, none⟩ (.slice av9 (s.m.length + 1) cv9) (.inl (by simp; omega))).set_ ⟨w.heap.size, 1, none⟩ (.slice a' s.t.length c') (.inl (by simp; omega))
        obtain ⟨a6, c6, e6, h2⟩ := h1.at
        exact ⟨⟨ms ++ [false], s.t⟩, a6, c6, a', c', by rw [← e6], h2, by have := HMS.out; simp; omega, hnl, (HX10.out.setCell (Nat.le_refl _) _).setCell (Nat.le_refl _) _⟩
      · have hr8b : (r8 == 0) = false := by simp [hr8]
        clear hr8
        have HZ8 := Lib.hid (ShX.of HS8.out)
        clear HS8
        obtain ⟨x0, x1, f0, f1⟩ := HK8.out.two
        obtain ⟨y0, y1, _, _⟩ := HT8.out.two
        have hz : w.heap.size < w8.heap.size := by omega
        go_wp2_with fail
        have hb5 := (HK8.out.set_ 0 (.slice av s.m.length cv)).set_ 1 (.slice a' s.t.length c')
        obtain ⟨z0, z1, _, _⟩ := (show Blk _ w.heap.size 26 #[(.slice av s.m.length cv), .slice a' s.t.length c'] from hb5).two
        refine bodyPost_ret (v := .agg #[(.slice av s.m.length cv), .slice a' s.t.length c']) (by simp only [results, Try.results13]; simp [go_sem, z0, z1]) rfl ?_
        have h1 := (HZ8.out.set_ ⟨w.heap.size, 0, none⟩ (.slice av s.m.length cv) (.inl (by simp; omega))).set_ ⟨w.heap.size, 1, none⟩ (.slice a' s.t.length c') (.inl (by simp; omega))
        obtain ⟨a6, c6, e6, h2⟩ := h1.at
        exact ⟨⟨ms, s.t⟩, a6, c6, a', c', by rw [← e6], h2, by have := HMS.out; simp; omega, hnl, (HX8.out.setCell (Nat.le_refl _) _).setCell (Nat.le_refl _) _⟩
end Go.Proofs.Ytklmpagpkeffjaa
