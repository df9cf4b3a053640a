/- DrawOrderFits -/
import Derived.Test.YtmbgglmnbllpjaaDrawOrd
import Derived.Test.YtmbgglmnbllpjaaSuS
namespace Go.Proofs.Ytmbgglmnbllpjaa
open Go.RowKit

set_option maxRecDepth 100000 in
set_option maxHeartbeats 3000000 in
theorem drawFits_any (w : World) (a : Option Addr) (n c : Nat) (h : CodeAt w a n c) : Calls Try.prog 50 #[.slice a n c] w fun e w' => ∃ (s : Sh) (a : Option Addr) (c : Nat) (a' : Option Addr) (c' : Nat) (l : List Int) (ai : Option Addr) (ci : Nat) (o : List Int) (ao : Option Addr) (co : Nat), e = .returned (.tuple #[.agg #[.slice a s.m.length c, .slice a' s.t.length c'], .slice ai l.length ci, .slice ao o.length co]) ∧
    ShAt w' (fun _ => True) s a c a' c' ∧ IntsAt w' (fun _ => True) l ai ci ∧ IntsAt w' (fun _ => True) o ao co ∧ s.t.length = s.m.length ∧ s.m.length ≤ 8 ∧ nodesL s.t ≤ 120 ∧ l.length ≤ 9 ∧ o.length ≤ 160 ∧ Below w.heap.size w w' := by
  have HC := Lib.hid (h.alloc (.cells #[.slice none 0 0, .slice none 0 0] 50))
  clear h
  go_enter Try.func50, Try.ntmps50
  go_wp2_with fail
  refine (open_any _ a n c HC.out).mono ?_
  rintro e w1 ⟨rfl, hrd, hb⟩
  have hsz1 := hb.size
  simp only [World.size_alloc] at hsz1 hrd hb
  have HK1 := Lib.hid ((Blk.new w 50 #[.slice none 0 0, .slice none 0 0]).below hb (by omega))
  have HE1 := Lib.hid (And.intro hrd (below_of_box hb))
  have hlt1 : w.heap.size + 1 < w1.heap.size := hrd.lt
  clear hrd hb HC
  go_wp2_with fail
  refine (sheetD_any _ (w.heap.size + 1) 0 ?_ (by omega)).mono ?_
  · exact HE1.out.1
  rintro e w2 ⟨s, v, a', c', q, rfl, hsh, htl, hml, hnl, _, hq2, hrd, ho⟩
  obtain ⟨av, cv, rfl, _⟩ := ElRow.at hsh.row
  have hsz2 := ho.size
  have HK2 := Lib.hid ((HK1.out.only ho (by omega)).alloc (.cells #[.slice av s.m.length cv, .slice a' s.t.length c'] 50))
  have HT2 := Lib.hid (Blk.new w2 50 #[.slice av s.m.length cv, .slice a' s.t.length c'])
  have hB2 : Below w.heap.size w w2 := HE1.out.2.trans ⟨ho.os, ho.tape, ho.output, ho.size, fun k hk => ho.block k (by omega) (by intro e; injection e; omega)⟩
  have HX2 := Lib.hid (hB2.alloc (by omega) (.cells #[.slice av s.m.length cv, .slice a' s.t.length c'] 50))
  have HS2 := Lib.hid (hsh.alloc (.cells #[.slice av s.m.length cv, .slice a' s.t.length c'] 50))
  have HR2 := Lib.hid (hrd.alloc (.cells #[.slice av s.m.length cv, .slice a' s.t.length c'] 50))
  have HTL := Lib.hid htl
  clear hrd ho hB2 HK1 HE1 hsh htl
  go_wp2_with fail
  refine (inputs_any _ (w.heap.size + 1) q av s.m.length cv a' s.t.length c' HR2.out (by omega) hml).mono ?_
  rintro e w3 ⟨l, v, q3, rfl, hn, hl, hlb, _, _, hrd, ho⟩
  have hsz3 := ho.size
  simp only [World.size_alloc] at hsz3 hn
  obtain ⟨ai, ci, rfl, _⟩ := NumRow.at (show NumRow w3 _ v l from hn) (by intro x hx; have := hlb x hx; unfold i64ok; omega)
  have HK3 := Lib.hid (HK2.out.only ho (by omega))
  have HT3 := Lib.hid (HT2.out.only ho (by omega))
  have HX3 := Lib.hid (show Below w.heap.size w w3 from HX2.out.trans ⟨ho.os, ho.tape, ho.output, ho.size, fun k hk => ho.block k (by simp; omega) (by intro e; injection e; omega)⟩)
  have HS3 := Lib.hid (HS2.out.only ho (by omega))
  have HN3 := Lib.hid hn
  have HR3 := Lib.hid hrd
  have HLB := Lib.hid hlb
  clear hn hlb hrd ho HK2 HT2 HX2 HS2 HR2
  obtain ⟨u0, u1, _, _⟩ := HT3.out.two
  have HKY := Lib.hid (keysD_any w3.drew (w.heap.size + 1) q3 av s.m.length cv a' s.t.length c' (HR3.out.keep (fun _ _ => rfl)) (by omega) hml)
  have HT4 := Lib.hid (show ∀ w4, Only (w.heap.size + 1) w3.drew w4 → Blk w4 w2.heap.size 50 #[.slice av s.m.length cv, .slice a' s.t.length c'] from fun w4 ho => Blk.only (w := w3.drew) HT3.out ho (by omega))
  have HSUS := Lib.hid (show ∀ (w4 : World) (ks : List Int) (v : Value), Only (w.heap.size + 1) w3.drew w4 → NumRow w4 w3.heap.size v ks → (∀ x ∈ ks, -1 ≤ x ∧ x ≤ 97) → ks.length ≤ 9 → ∃ ak ck, v = .slice ak ks.length ck ∧ Calls Try.prog 94 #[.agg #[.slice av s.m.length cv, .slice a' s.t.length c'], .slice ai l.length ci, .slice ak ks.length ck] w4 (OrP (suB s l ks) (suL s l ks) w4) from fun w4 ks v ho hn hb hl => by
    obtain ⟨ak, ck, rfl, hik⟩ := hn.at (fun x hx => by have := hb x hx; unfold i64ok; omega)
    have h1 := HS3.out.only (show Only (w.heap.size + 1) w3 w4 from (Only.drewN (Only.refl _ w3) 1).trans ho) (by omega)
    obtain ⟨a6, c6, e6, h2⟩ := h1.at
    simp only [Value.slice.injEq, true_and] at e6
    obtain ⟨rfl, rfl⟩ := e6
    have h3 := NumRow.only HN3.out (show Only (w.heap.size + 1) w3 w4 from (Only.drewN (Only.refl _ w3) 1).trans ho) (by omega)
    obtain ⟨a7, c7, e7, h4⟩ := NumRow.at (show NumRow _ _ _ l from h3) (by intro x hx; have := HLB.out x hx; unfold i64ok; omega)
    simp only [Value.slice.injEq, true_and] at e7
    obtain ⟨rfl, rfl⟩ := e7
    exact ⟨ak, ck, rfl, specSuspend_any s l ks w4 _ _ _ av cv a' c' ai ci ak ck h2 (by omega) h4 hik (by omega)⟩)
  go_wp2_with fail
  go_region_with (first
    | (go_at_call 87
       refine HKY.out.mono ?_
       rintro e w4 ⟨ks, vk, q4, rfl, hn4, hkl, hkb, hq41, hq42, hrd4, ho4⟩
       obtain ⟨ak, ck, rfl, hsus⟩ := HSUS.out w4 ks vk ho4 hn4 hkb hkl
       obtain ⟨z0, z1, _, _⟩ := (HT4.out w4 ho4).two)
    | (go_at_call 94
       go_must (refine hsus.mono ?_
                rintro e w5 ⟨hb5, v5, rfl, hr5⟩)))
  all_goals
    have hbd := suL_bd s l ks
    obtain ⟨o, hoo⟩ : ∃ o, o = suL s l ks := ⟨_, rfl⟩
    rw [← hoo] at hbd hr5
    have HBD := Lib.hid hbd.1
    obtain ⟨ao, co, rfl, _⟩ := hr5.at (fun x hx => by have := hbd.1 x hx; unfold i64ok; omega)
    obtain ⟨OL, hOL⟩ : ∃ n, n = o.length := ⟨_, rfl⟩
    have HOL := Lib.hid hOL
    rw [← hOL] at hr5 hbd ⊢
    have hol := hbd.2
    have ho35 : Only (w.heap.size + 1) w3 w5 := ((Only.drewN (Only.refl _ w3) 1).trans ho4).trans (Only.of_below hb5)
    have hs4 : w3.heap.size ≤ w4.heap.size := ho4.size
    have hs5 := hb5.size
    have H5K := Lib.hid (HK3.out.only ho35 (by omega))
    have H5T := Lib.hid (HT3.out.only ho35 (by omega))
    have H5X := Lib.hid (show Below w.heap.size w w5 from HX3.out.trans ⟨ho35.os, ho35.tape, ho35.output, ho35.size, fun k hk => ho35.block k (by omega) (by intro e; injection e; omega)⟩)
    have H5S := Lib.hid (HS3.out.only ho35 (by omega))
    have H5N := Lib.hid (NumRow.only HN3.out ho35 (by omega))
    have H5O := Lib.hid hr5
    have H5R := Lib.hid (hrd4.below hb5)
    have hoc : OL ≤ co ∧ co ≤ 9223372036854775807 := by
      have h := ElRow.at (f := Value.int .i64) (e := 3) hr5
      obtain ⟨_, _, h1, h2⟩ := h
      simp only [Value.slice.injEq] at h1
      obtain ⟨_, h1, rfl⟩ := h1
      exact ⟨by rw [h1]; exact h2.1, h2.2.1⟩
    clear hbd hoo hOL hr5 ho35 hb5 ho4 hrd4 hn4 hsus z0 z1 u0 u1 HKY HT4 HSUS hkl hkb HK3 HT3 HX3 HS3 HR3
    go_wp2_with fail
    refine (pick_any _ (w.heap.size + 1) q4 3 H5R.out (by omega) (by omega) (by omega)).mono ?_
    rintro e w6 ⟨r, rfl, h0, h1, hrd, ho⟩
    have hs6 := ho.size
    have H6K := Lib.hid (H5K.out.only ho (by omega))
    have H6T := Lib.hid (H5T.out.only ho (by omega))
    have H6X := Lib.hid (show Below w.heap.size w w6 from H5X.out.trans ⟨ho.os, ho.tape, ho.output, ho.size, fun k hk => ho.block k (by omega) (by intro e; injection e; omega)⟩)
    have H6S := Lib.hid (H5S.out.only ho (by omega))
    have H6N := Lib.hid (NumRow.only H5N.out ho (by omega))
    have H6O := Lib.hid (NumRow.only H5O.out ho (by omega))
    have H6R := Lib.hid hrd
    clear h1 hrd ho H5K H5T H5X H5S H5N H5O H5R
    by_cases hr0 : r = 0
    · subst hr0
      by_cases h1L : 1 < OL
      · have hgt : decide ((1 : Int) < (OL : Int)) = true := decide_eq_true (by omega)
        have hwr : IntKind.i64.wrap ((OL : Int) - 1) = (OL : Int) - 1 := IntWalk.i64_in _ ⟨by omega, by omega⟩
        go_wp2_with fail
        refine (pick_any _ (w.heap.size + 1) (q4 + 1) ((OL : Int) - 1) H6R.out (by omega) (by omega) (by omega)).mono ?_
        rintro e w7 ⟨r2, rfl, h0', h1', hrd, ho⟩
        have hr2 := h1' (by omega)
        obtain ⟨kn, rfl⟩ : ∃ kn : Nat, r2 = kn := ⟨r2.toNat, by omega⟩
        have hs7 := ho.size
        have H7K := Lib.hid (H6K.out.only ho (by omega))
        have H7T := Lib.hid (H6T.out.only ho (by omega))
        have H7X := Lib.hid (show Below w.heap.size w w7 from H6X.out.trans ⟨ho.os, ho.tape, ho.output, ho.size, fun k hk => ho.block k (by omega) (by intro e; injection e; omega)⟩)
        have H7S := Lib.hid (H6S.out.only ho (by omega))
        have H7N := Lib.hid (NumRow.only H6N.out ho (by omega))
        have H7O := Lib.hid (NumRow.only H6O.out ho (by omega))
        clear h1' hrd ho H6K H6T H6X H6S H6N H6O H6R hwr
        obtain ⟨go, capo, hgo⟩ := own_some H7O.out (by have := HOL.out; omega)
        obtain ⟨rfl, rfl⟩ : ao = some ⟨go, 0, none⟩ ∧ co = capo := by
          simp only [Value.slice.injEq] at hgo
          exact ⟨hgo.1, hgo.2.2⟩
        have hgb := World.ownsRow.lt H7O.out go rfl
        have hk1 : kn < o.length := by have := HOL.out; omega
        have hk2 : kn + 1 < o.length := by have := HOL.out; omega
        obtain ⟨xa, hxa⟩ : ∃ x, x = o[kn] := ⟨_, rfl⟩
        obtain ⟨xb, hxb⟩ : ∃ x, x = o[kn + 1] := ⟨_, rfl⟩
        have hca : w7.cell? ⟨go, kn, none⟩ = some (.int .i64 xa) := by
          have hc := World.ownsRow.cells H7O.out (g := go) rfl kn (.int .i64 o[kn]) (by rw [List.getElem?_map, List.getElem?_eq_getElem hk1]; rfl)
          rw [hxa]; rwa [addr0] at hc
        have hcb : w7.cell? ⟨go, kn + 1, none⟩ = some (.int .i64 xb) := by
          have hc := World.ownsRow.cells H7O.out (g := go) rfl (kn + 1) (.int .i64 o[kn + 1]) (by rw [List.getElem?_map, List.getElem?_eq_getElem hk2]; rfl)
          rw [hxb]; rwa [addr0] at hc
        obtain ⟨cso, hbo⟩ := num_blk H7O.out
        have hfa := hbo.frozen kn
        have hfb := hbo.frozen (kn + 1)
        have hko : kn < OL := by omega
        have hko2 : kn + 1 < OL := by omega
        have hgne1 : go ≠ w2.heap.size := by omega
        have hgne2 : go ≠ w.heap.size := by omega
        have hxxa := Lib.hid hxa
        have hxxb := Lib.hid hxb
        clear hgo hbo hxa hxb
        have hxa := hxxa
        have hxb := hxxb
        clear hxxa hxxb
        obtain ⟨x0, x1, f0, f1⟩ := H7K.out.two
        obtain ⟨y0, y1, _, _⟩ := H7T.out.two
        have hz : w.heap.size < w7.heap.size := by omega
        go_wp2_with fail
        obtain ⟨W, hW⟩ : ∃ W, W = (w7.setCell ⟨go, kn, none⟩ (.int .i64 xb)).setCell ⟨go, kn + 1, none⟩ (.int .i64 xa) := ⟨_, rfl⟩
        have hWs : W.heap.size = w7.heap.size := by rw [hW]; simp [World.setCell]
        have h8K : Blk W w.heap.size 50 #[.slice none 0 0, .slice none 0 0] := by rw [hW]; exact (H7K.out.far (p := ⟨go, kn, none⟩) (by simp; omega) _).far (p := ⟨go, kn + 1, none⟩) (by simp; omega) _
        have h8S := (H7S.out.set_ ⟨go, kn, none⟩ (.int .i64 xb) (.inr (by simp; omega))).set_ ⟨go, kn + 1, none⟩ (.int .i64 xa) (.inr (by simp; omega))
        have hnl8 : (Value.slice ai l.length ci).ownBlock ≠ some go := fun e => by have := (World.ownsRow.lt HN3.out _ e).2; omega
        have h8N := ownsRow_setCell_other (ownsRow_setCell_other H7N.out (a := ⟨go, kn, none⟩) hnl8 (.int .i64 xb)) (a := ⟨go, kn + 1, none⟩) hnl8 (.int .i64 xa)
        have h8O := (H7O.out.set_ kn xb).set_ (kn + 1) xa
        have h8X : Below w.heap.size w W := by rw [hW]; exact (H7X.out.setCell (by simp; omega) _).setCell (by simp; omega) _
        rw [← hW] at h8S h8N h8O ⊢
        have hb5' := (h8K.set_ 0 (.slice av s.m.length cv)).set_ 1 (.slice a' s.t.length c')
        obtain ⟨z0, z1, _, _⟩ := (show Blk _ w.heap.size 50 #[.slice av s.m.length cv, .slice a' s.t.length c'] from hb5').two
        refine bodyPost_ret (v := .tuple #[.agg #[.slice av s.m.length cv, .slice a' s.t.length c'], .slice ai l.length ci, .slice (some ⟨go, 0, none⟩) OL co]) (by simp only [results, Try.results50]; simp [go_sem, z0, z1]) rfl ?_
        have hne : (Value.slice ai l.length ci).ownBlock ≠ some w.heap.size := fun e => by have := own_ge HN3.out _ e; omega
        have h1 := (h8S.set_ ⟨w.heap.size, 0, none⟩ (.slice av s.m.length cv) (.inl (by simp; omega))).set_ ⟨w.heap.size, 1, none⟩ (.slice a' s.t.length c') (.inl (by simp; omega))
        obtain ⟨a6, c6, e6, h2⟩ := h1.at
        simp only [Value.slice.injEq, true_and] at e6
        obtain ⟨rfl, rfl⟩ := e6
        have h3 := ownsRow_setCell_other (ownsRow_setCell_other h8N (a := ⟨w.heap.size, 0, none⟩) hne (.slice av s.m.length cv)) (a := ⟨w.heap.size, 1, none⟩) hne (.slice a' s.t.length c')
        obtain ⟨a7, c7, e7, h4⟩ := NumRow.at (show NumRow _ _ _ l from h3) (by intro x hx; have := HLB.out x hx; unfold i64ok; omega)
        simp only [Value.slice.injEq, true_and] at e7
        obtain ⟨rfl, rfl⟩ := e7
        have hneq : (Value.slice (some ⟨go, 0, none⟩) OL co).ownBlock ≠ some w.heap.size := fun e => by simp [Value.ownBlock] at e; omega
        have h5 := ownsRow_setCell_other (ownsRow_setCell_other h8O (a := ⟨w.heap.size, 0, none⟩) hneq (.slice av s.m.length cv)) (a := ⟨w.heap.size, 1, none⟩) hneq (.slice a' s.t.length c')
        obtain ⟨a8, c8, e8, h6⟩ := NumRow.at (show NumRow _ _ _ ((o.set kn xb).set (kn + 1) xa) from h5) (fun x hx => by
          have hxm : x ∈ o := by
            rcases List.mem_or_eq_of_mem_set hx with h | h
            · rcases List.mem_or_eq_of_mem_set h with h | h
              · exact h
              · rw [h, hxb.out]; exact List.getElem_mem _
            · rw [h, hxa.out]; exact List.getElem_mem _
          have := HBD.out x hxm; unfold i64ok; omega)
        simp only [Value.slice.injEq] at e8
        obtain ⟨rfl, hlen8, rfl⟩ := e8
        exact ⟨s, av, cv, a', c', l, ai, ci, (o.set kn xb).set (kn + 1) xa, _, co, by rw [← hlen8], h2.keep (fun _ _ => trivial) (fun _ _ _ => rfl), h4.keep (fun _ _ => trivial) (fun _ _ _ => rfl), h6.keep (fun _ _ => trivial) (fun _ _ _ => rfl), HTL.out, hml, hnl, hl, by rw [← hlen8]; omega, (h8X.setCell (Nat.le_refl _) _).setCell (Nat.le_refl _) _⟩
      · have hgt : decide ((1 : Int) < (OL : Int)) = false := decide_eq_false (by omega)
        obtain ⟨x0, x1, f0, f1⟩ := H6K.out.two
        obtain ⟨y0, y1, _, _⟩ := H6T.out.two
        have hz : w.heap.size < w6.heap.size := by omega
        go_wp2_with fail
        have hb5' := (H6K.out.set_ 0 (.slice av s.m.length cv)).set_ 1 (.slice a' s.t.length c')
        obtain ⟨z0, z1, _, _⟩ := (show Blk _ w.heap.size 50 #[.slice av s.m.length cv, .slice a' s.t.length c'] from hb5').two
        refine bodyPost_ret (v := .tuple #[.agg #[.slice av s.m.length cv, .slice a' s.t.length c'], .slice ai l.length ci, .slice ao OL co]) (by simp only [results, Try.results50]; simp [go_sem, z0, z1]) rfl ?_
        have hne : (Value.slice ai l.length ci).ownBlock ≠ some w.heap.size := fun e => by have := own_ge HN3.out _ e; omega
        have h1 := (H6S.out.set_ ⟨w.heap.size, 0, none⟩ (.slice av s.m.length cv) (.inl (by simp; omega))).set_ ⟨w.heap.size, 1, none⟩ (.slice a' s.t.length c') (.inl (by simp; omega))
        obtain ⟨a6, c6, e6, h2⟩ := h1.at
        simp only [Value.slice.injEq, true_and] at e6
        obtain ⟨rfl, rfl⟩ := e6
        have h3 := ownsRow_setCell_other (ownsRow_setCell_other H6N.out (a := ⟨w.heap.size, 0, none⟩) hne (.slice av s.m.length cv)) (a := ⟨w.heap.size, 1, none⟩) hne (.slice a' s.t.length c')
        obtain ⟨a7, c7, e7, h4⟩ := NumRow.at (show NumRow _ _ _ l from h3) (by intro x hx; have := HLB.out x hx; unfold i64ok; omega)
        simp only [Value.slice.injEq, true_and] at e7
        obtain ⟨rfl, rfl⟩ := e7
        have hneq : (Value.slice ao OL co).ownBlock ≠ some w.heap.size := fun e => by have := own_ge H6O.out _ e; omega
        have h5 := ownsRow_setCell_other (ownsRow_setCell_other H6O.out (a := ⟨w.heap.size, 0, none⟩) hneq (.slice av s.m.length cv)) (a := ⟨w.heap.size, 1, none⟩) hneq (.slice a' s.t.length c')
        obtain ⟨a8, c8, e8, h6⟩ := NumRow.at (show NumRow _ _ _ o from h5) (fun x hx => by have := HBD.out x hx; unfold i64ok; omega)
        simp only [Value.slice.injEq] at e8
        obtain ⟨rfl, hlen8, rfl⟩ := e8
        exact ⟨s, av, cv, a', c', l, ai, ci, o, ao, co, by rw [← hlen8], h2.keep (fun _ _ => trivial) (fun _ _ _ => rfl), h4.keep (fun _ _ => trivial) (fun _ _ _ => rfl), h6.keep (fun _ _ => trivial) (fun _ _ _ => rfl), HTL.out, hml, hnl, hl, by rw [← hlen8]; omega, (H6X.out.setCell (Nat.le_refl _) _).setCell (Nat.le_refl _) _⟩
    · have hne0 : (r == 0) = false := by simpa using hr0
      obtain ⟨x0, x1, f0, f1⟩ := H6K.out.two
      obtain ⟨y0, y1, _, _⟩ := H6T.out.two
      have hz : w.heap.size < w6.heap.size := by omega
      go_wp2_with fail
      have hb5' := (H6K.out.set_ 0 (.slice av s.m.length cv)).set_ 1 (.slice a' s.t.length c')
      obtain ⟨z0, z1, _, _⟩ := (show Blk _ w.heap.size 50 #[.slice av s.m.length cv, .slice a' s.t.length c'] from hb5').two
      refine bodyPost_ret (v := .tuple #[.agg #[.slice av s.m.length cv, .slice a' s.t.length c'], .slice ai l.length ci, .slice ao OL co]) (by simp only [results, Try.results50]; simp [go_sem, z0, z1]) rfl ?_
      have hne : (Value.slice ai l.length ci).ownBlock ≠ some w.heap.size := fun e => by have := own_ge HN3.out _ e; omega
      have h1 := (H6S.out.set_ ⟨w.heap.size, 0, none⟩ (.slice av s.m.length cv) (.inl (by simp; omega))).set_ ⟨w.heap.size, 1, none⟩ (.slice a' s.t.length c') (.inl (by simp; omega))
      obtain ⟨a6, c6, e6, h2⟩ := h1.at
      simp only [Value.slice.injEq, true_and] at e6
      obtain ⟨rfl, rfl⟩ := e6
      have h3 := ownsRow_setCell_other (ownsRow_setCell_other H6N.out (a := ⟨w.heap.size, 0, none⟩) hne (.slice av s.m.length cv)) (a := ⟨w.heap.size, 1, none⟩) hne (.slice a' s.t.length c')
      obtain ⟨a7, c7, e7, h4⟩ := NumRow.at (show NumRow _ _ _ l from h3) (by intro x hx; have := HLB.out x hx; unfold i64ok; omega)
      simp only [Value.slice.injEq, true_and] at e7
      obtain ⟨rfl, rfl⟩ := e7
      have hneq : (Value.slice ao OL co).ownBlock ≠ some w.heap.size := fun e => by have := own_ge H6O.out _ e; omega
      have h5 := ownsRow_setCell_other (ownsRow_setCell_other H6O.out (a := ⟨w.heap.size, 0, none⟩) hneq (.slice av s.m.length cv)) (a := ⟨w.heap.size, 1, none⟩) hneq (.slice a' s.t.length c')
      obtain ⟨a8, c8, e8, h6⟩ := NumRow.at (show NumRow _ _ _ o from h5) (fun x hx => by have := HBD.out x hx; unfold i64ok; omega)
      simp only [Value.slice.injEq] at e8
      obtain ⟨rfl, hlen8, rfl⟩ := e8
      exact ⟨s, av, cv, a', c', l, ai, ci, o, ao, co, by rw [← hlen8], h2.keep (fun _ _ => trivial) (fun _ _ _ => rfl), h4.keep (fun _ _ => trivial) (fun _ _ _ => rfl), h6.keep (fun _ _ => trivial) (fun _ _ _ => rfl), HTL.out, hml, hnl, hl, by rw [← hlen8]; omega, (H6X.out.setCell (Nat.le_refl _) _).setCell (Nat.le_refl _) _⟩
end Go.Proofs.Ytmbgglmnbllpjaa
