/- spec.l5Put, spec.TracesPut -/
import Derived.Test.YtjbggeeadodmpaaTrU
import Derived.Test.YtjbggeeadodmpaaTr2
namespace Go.Proofs.Ytjbggeeadodmpaa
open Go.RowKit

theorem list_each {α : Type} {Q : Nat → α → Prop} : ∀ n, (∀ i, i < n → ∃ y, Q i y) → ∃ l : List α, l.length = n ∧ ∀ i (h : i < l.length), Q i l[i]
  | 0, _ => ⟨[], rfl, fun i h => by simp at h⟩
  | n + 1, h => by
    obtain ⟨l, hl, hq⟩ := list_each n (fun i hi => h i (by omega))
    obtain ⟨y, hy⟩ := h n (by omega)
    refine ⟨l ++ [y], by simp [hl], fun i hi => ?_⟩
    rw [List.getElem_append]
    split
    · exact hq i _
    · rw [List.length_append, List.length_singleton] at hi
      obtain rfl : i = n := by omega
      simp only [List.getElem_singleton]
      exact hy
/-- The cells of traces, and their slices. -/
theorem TrsAt.cells {w : World} {S : Nat → Prop} {l : List Tr} {a : Option Addr} {c : Nat} (h : TrsAt w S l a c) : ∃ us : List Value, us.length = l.length ∧
    (∀ w', Below w.heap.size w w' → l.length = 0 ∨ ∃ ad, a = some ad ∧ ∀ j u, (tcl (l.map Tr.raw) us)[j]? = some u → w'.cell? (ad.add j) = some u) ∧ ∀ i (hi : i < l.length), ∃ a' c', us[i]? = some (.slice a' l[i].u.length c') ∧ PrsAt w S l[i].u a' c' := by
  obtain ⟨-, -, h4⟩ := h
  rcases h4 with rfl | ⟨b, o, rfl, hS, hc⟩
  · exact ⟨[], rfl, fun _ _ => .inl rfl, fun i hi => by simp at hi⟩
  obtain ⟨us, hul, hus⟩ := list_each (Q := fun i (u : Value) => ∀ (hi : i < l.length), ∃ a' c', u = .slice a' l[i].u.length c' ∧ w.cell? ⟨b, o + i * 3 + 1, none⟩ = some u ∧ PrsAt w S l[i].u a' c') l.length (fun i hi => by
    obtain ⟨_, _, _, _, a', c', h5, h6⟩ := hc i hi
    exact ⟨_, fun _ => ⟨a', c', rfl, h5, h6⟩⟩)
  refine ⟨us, hul, fun w' hb => .inr ⟨_, rfl, fun j u hj => ?_⟩, fun i hi => ?_⟩
  · have hml : us.length = (l.map Tr.raw).length := by simp [hul]
    have hjl : j < (tcl (l.map Tr.raw) us).length := (List.getElem?_eq_some_iff.1 hj).1
    rw [tcl_len hml, List.length_map] at hjl
    have hi : j / 3 < l.length := by omega
    have hiu : j / 3 < us.length := by omega
    obtain ⟨t0, t1, t2⟩ := tcl_get hml (j / 3) (by simpa using hi) us[j / 3] (List.getElem?_eq_getElem hiu)
    obtain ⟨_, _, c0, c2, _⟩ := hc (j / 3) hi
    obtain ⟨a', c', _, c1, _⟩ := hus (j / 3) hiu hi
    have hblt : b < w.heap.size := cell_lt c0
    have e : (⟨b, o, none⟩ : Addr).add j = ⟨b, o + j, none⟩ := by unfold Addr.add; split <;> simp_all
    rw [e]
    refine same_cell (hb.block b hblt) ?_
    rw [List.getElem_map] at t0 t2
    have hm : j % 3 < 3 := Nat.mod_lt _ (by decide)
    rcases (show j % 3 = 0 ∨ j % 3 = 1 ∨ j % 3 = 2 by omega) with hr | hr | hr
    · rw [show j / 3 * 3 = j by omega] at c0 t0
      have := Option.some.inj (hj.symm.trans t0)
      rw [this]; exact c0
    · rw [show o + j / 3 * 3 + 1 = o + j by omega] at c1
      rw [show j / 3 * 3 + 1 = j by omega] at t1
      have := Option.some.inj (hj.symm.trans t1)
      rw [this]; exact c1
    · rw [show o + j / 3 * 3 + 2 = o + j by omega] at c2
      rw [show j / 3 * 3 + 2 = j by omega] at t2
      have := Option.some.inj (hj.symm.trans t2)
      rw [this]; exact c2
  · obtain ⟨a', c', h1, _, h2⟩ := hus i (by omega) hi
    exact ⟨a', c', by rw [List.getElem?_eq_getElem (by omega), h1], h2⟩
theorem tcl_one {l : List Rt} {us : List Value} (h : us.length = l.length) (ho : ∀ u ∈ us, u.oneCell' = true) : ∀ u ∈ tcl l us, u.oneCell' = true := by
  intro u hu
  obtain ⟨j, hj, rfl⟩ := List.getElem_of_mem hu
  have hj' := hj
  rw [tcl_len h] at hj'
  have hi : j / 3 < l.length := by omega
  have hiu : j / 3 < us.length := by omega
  obtain ⟨t0, t1, t2⟩ := tcl_get h (j / 3) hi us[j / 3] (List.getElem?_eq_getElem hiu)
  rcases (show j % 3 = 0 ∨ j % 3 = 1 ∨ j % 3 = 2 by omega) with hr | hr | hr
  · rw [show j / 3 * 3 = j by omega, List.getElem?_eq_getElem hj] at t0
    rw [Option.some.inj t0]; simp [Value.oneCell']
  · rw [show j / 3 * 3 + 1 = j by omega, List.getElem?_eq_getElem hj] at t1
    rw [Option.some.inj t1]; exact ho _ (List.getElem_mem hiu)
  · rw [show j / 3 * 3 + 2 = j by omega, List.getElem?_eq_getElem hj] at t2
    rw [Option.some.inj t2]; simp [Value.oneCell']
/-- A row of traces whose pairs lie anywhere. -/
theorem TrsAt.ofRow {w : World} {base : Nat} {v : Value} {L : List Tr} {us : List Value} {S : Nat → Prop} (hr : w.ownsRow base 25 3 v L.length (tcl (L.map Tr.raw) us)) (hul : us.length = L.length) (hf : ∀ t ∈ L, i64ok t.k ∧ i64ok t.v)
    (hp : ∀ i (hi : i < L.length), ∃ a c, us[i]? = some (.slice a L[i].u.length c) ∧ PrsAt w S L[i].u a c) : ∃ a c, v = .slice a L.length c ∧ TrsAt w (fun b => S b ∨ v.ownBlock = some b) L a c := by
  obtain ⟨a, c, rfl⟩ := own_shape hr
  obtain ⟨h1, h2, h3⟩ := ownsRow_at hr
  refine ⟨a, c, rfl, h1, h2, ?_⟩
  rcases h3 with h3 | ⟨g, rfl, ho, hc⟩
  · exact .inl (List.length_eq_zero_iff.1 h3)
  refine .inr ⟨g, 0, rfl, .inr ho, fun i hi => ?_⟩
  obtain ⟨a', c', hu, hpr⟩ := hp i hi
  obtain ⟨t0, t1, t2⟩ := tcl_get (l := L.map Tr.raw) (us := us) (by simp [hul]) i (by simpa using hi) _ hu
  rw [List.getElem_map] at t0 t2
  have c0 := hc _ _ t0
  have c1 := hc _ _ t1
  have c2 := hc _ _ t2
  rw [Nat.zero_add] at c0 c1 c2
  have hfe := hf L[i] (List.getElem_mem hi)
  refine ⟨hfe.1, hfe.2, by rw [Nat.zero_add]; exact c0, by rw [Nat.zero_add]; exact c2, a', c', by rw [Nat.zero_add]; exact c1, hpr.weaken (fun _ h => .inl h)⟩
theorem TrsAt.fin {w : World} {S : Nat → Prop} {l : List Tr} {a : Option Addr} {c : Nat} (h : TrsAt w S l a c) : ∀ t ∈ l, i64ok t.k ∧ i64ok t.v := by
  intro t ht
  obtain ⟨i, hi, rfl⟩ := List.getElem_of_mem ht
  obtain ⟨_, _, _, _, _, _, _, _, _, _, _, h1, h2⟩ := h.get (Below.refl _ _) hi
  exact ⟨h1, h2⟩
theorem row3b {w : World} {g : Nat} {x y z : Value} {ty : TypeId} (h : Blk w g ty #[x, y, z]) : ∀ j u, [x, y, z][j]? = some u → w.cell? ((⟨g, 0, none⟩ : Addr).add j) = some u := by
  intro j u hj
  have e : (⟨g, 0, none⟩ : Addr).add j = ⟨g, j, none⟩ := by unfold Addr.add; split <;> simp_all
  obtain ⟨h0, h1, h2, -⟩ := h.three
  rw [e]
  match j with
  | 0 => simp at hj; subst hj; exact h0
  | 1 => simp at hj; subst hj; exact h1
  | 2 => simp at hj; subst hj; exact h2
  | j + 3 => simp at hj
theorem fr_grown {w w' : World} {v : Option Nat} (hgr : w.grownBy w' v) : Fr (fun b => v = some b) w w' := ⟨hgr.os, hgr.tape, hgr.output, hgr.size, fun b hb hn => hgr.block b hb (fun e => hn e.symm)⟩
theorem le_alloc {w w1 : World} (hb : Below w.heap.size w w1) (o : Obj) : w.heap.size ≤ (w1.alloc o).heap.size := by have := hb.size; simp; omega
theorem one3 (x : Int) (a : Option Addr) (n c : Nat) (y : Int) : ∀ u ∈ [Value.int .i64 x, .slice a n c, .int .i64 y], u.oneCell' = true := by simp [Value.oneCell']
theorem belowPut {w w1 w2 : World} {o : Obj} {v : Value} {n : Nat} {xs : List Value} (hb : Below w.heap.size w w1) (hr : w1.ownsRow w.heap.size 25 3 v n xs) (hg : (w1.alloc o).grownBy w2 v.ownBlock) : Below w.heap.size w w2 :=
  (hb.alloc hb.size o).trans (below_grown hg (le_alloc hb o) (own_ge hr))
theorem belowPut' {w w1 w2 : World} {v : Value} {n : Nat} {xs : List Value} (hb : Below w.heap.size w w1) (hr : w1.ownsRow w.heap.size 25 3 v n xs) (hg : w1.grownBy w2 v.ownBlock) : Below w.heap.size w w2 :=
  hb.trans (below_grown hg hb.size (own_ge hr))
theorem blkV2 (w : World) (x y z : Value) : Blk ((w.alloc (.cells #[] 25)).alloc (.cells #[x, y, z] 25)) (w.heap.size + 1) 25 #[x, y, z] := by
  have h := Blk.new (w.alloc (.cells #[] 25)) 25 #[x, y, z]
  simpa using h
theorem blkV3 (w : World) (x y z : Value) : Blk ((w.alloc (.cells #[x, y, z] 25)).alloc (.cells #[] 25)) w.heap.size 25 #[x, y, z] := (Blk.new w _ _).alloc _
theorem ownA (w : World) (o : Obj) : ((w.alloc (.cells #[] 25)).alloc o).ownsRow w.heap.size 25 3 (.slice (some ⟨w.heap.size, 0, none⟩) 0 0) 0 [] := World.ownsRow.alloc (trs_empty w 0 #[] (by simp) (by omega)).row _
theorem ownB (w : World) (o : Obj) : ((w.alloc o).alloc (.cells #[] 25)).ownsRow w.heap.size 25 3 (.slice (some ⟨w.heap.size + 1, 0, none⟩) 0 0) 0 [] := by
  have h := ownsRow_low (trs_empty (w.alloc o) 0 #[] (by simp) (by omega)).row (show w.heap.size ≤ (w.alloc o).heap.size by simp)
  simpa [tcl] using h
theorem blk_fr {w w' : World} {g : Nat} {t : TypeId} {cs : Array Value} {D : Nat → Prop} (h : Blk w g t cs) (hf : Fr D w w') (hg : ¬ D g) : Blk w' g t cs := (hf.2.2.2.2 g h.lt hg).trans h
/-- What l5Put hands back behind its two appends. -/
theorem putShort {w w2 : World} {S S' : Nat → Prop} {l : List Tr} {t : Tr} {a' : Option Addr} {c' base n : Nat} {v2 : Value} {us : List Value} (hb : Below w.heap.size w w2) (hul : us.length = l.length)
    (hps : ∀ i (hi : i < l.length), ∃ a' c', us[i]? = some (.slice a' l[i].u.length c') ∧ PrsAt w S l[i].u a' c') (hfl : ∀ t ∈ l, i64ok t.k ∧ i64ok t.v) (hft : i64ok t.k ∧ i64ok t.v) (ht : PrsAt w S' t.u a' c')
    (hn : n = l.length + 1) (hr : w2.ownsRow base 25 3 v2 n (tcl (l.map Tr.raw) us ++ [.int .i64 t.k, .slice a' t.u.length c', .int .i64 t.v])) : ∃ a c, v2 = .slice a (l.length + 1) c ∧ ∃ S2, TrsAt w2 S2 (l ++ [t]) a c := by
  subst hn
  have hr' : w2.ownsRow base 25 3 v2 (l ++ [t]).length (tcl ((l ++ [t]).map Tr.raw) (us ++ [.slice a' t.u.length c'])) := by
    rw [List.map_append, List.length_append]
    show w2.ownsRow base 25 3 v2 (l.length + 1) (tcl (l.map Tr.raw ++ [t.raw]) (us ++ [.slice a' t.u.length c']))
    rw [tcl_snoc (by simp [hul])]
    exact hr
  obtain ⟨a, c, he, hat⟩ := TrsAt.ofRow (S := fun b => S b ∨ S' b) hr' (by simp [hul]) (fun x hx => by
    rw [List.mem_append, List.mem_singleton] at hx
    rcases hx with hx | rfl
    · exact hfl x hx
    · exact hft) (fun i hi => by
    by_cases hlt : i < l.length
    · obtain ⟨a1, c1, h1, h2⟩ := hps i hlt
      refine ⟨a1, c1, ?_, ?_⟩
      · rw [List.getElem?_append_left (by omega), List.getElem_append_left hlt]; exact h1
      · rw [List.getElem_append_left hlt]; exact (h2.below hb).weaken (fun _ h => .inl h)
    · have hi' : i = l.length := by simp at hi; omega
      subst hi'
      refine ⟨a', c', ?_, ?_⟩
      · rw [List.getElem?_append_right (by omega), hul]; simp
      · simp only [List.getElem_append_right (Nat.le_refl _), Nat.sub_self, List.getElem_singleton]
        exact (ht.below hb).weaken (fun _ h => .inr h))
  rw [List.length_append] at he
  exact ⟨a, c, he, _, hat⟩

set_option maxRecDepth 100000 in
set_option maxHeartbeats 4000000 in
theorem l5Put_any (w : World) (S S' : Nat → Prop) (l : List Tr) (t : Tr) (a a' : Option Addr) (c c' : Nat) (h : TrsAt w S l a c) (h' : PrsAt w S' t.u a' c') (hft : i64ok t.k ∧ i64ok t.v) (h60 : l.length ≤ 60) :
    Calls Try.prog 50 #[.slice a l.length c, .agg #[.int .i64 t.k, .slice a' t.u.length c', .int .i64 t.v]] w fun e w' => Below w.heap.size w w' ∧ ∃ S2 a2 c2, e = .returned (.slice a2 (trPut l t).length c2) ∧ TrsAt w' S2 (trPut l t) a2 c2 := by
  have hlen : l.length ≤ 9223372036854775807 := RwAt.len h
  have K0 := Lib.hid (Kt.start (ty := 25) h')
  have H := Lib.hid (h.alloc (.cells #[.int .i64 t.k, .slice a' t.u.length c', .int .i64 t.v] 25))
  have hsz := K0.out.size
  clear h h'
  obtain ⟨W, hW⟩ : ∃ W, W = w.alloc (.cells #[.int .i64 t.k, .slice a' t.u.length c', .int .i64 t.v] 25) := ⟨_, rfl⟩
  have HWW := Lib.hid hW
  rw [← hW] at K0 H hsz
  have HSZ := Lib.hid hsz
  clear hW
  go_enter Try.func50, Try.ntmps50
  go_wp2_with fail
  rw [← HWW.out]
  go_loopw [5] (fun i wr => ∃ k : Nat, k ≤ l.length ∧ i = .int .i64 k ∧ ((l.take k).any fun x => trEq x t) = false ∧ Below W.heap.size W wr) (fun i _ => l.length - (intOf i).toNat)
  case atStart => exact ⟨0, by omega, rfl, rfl, Below.refl _ _⟩
  case round =>
    obtain ⟨k, hk, rfl, hq, hb⟩ := hrel
    have HQ := Lib.hid hq
    have HB := Lib.hid hb
    have hwr := hb.size
    have K1 := Lib.hid (K0.out.step hb)
    clear hq hb
    obtain ⟨x0, x1, x2⟩ := K1.out.box
    by_cases hlt : k < l.length
    · obtain ⟨b, o, a2, c2, rfl, hbl, _, e0, e1, e2, hs, _, _⟩ := H.out.get HB.out hlt
      have HSN := Lib.hid (show ((l.take (k + 1)).any fun x => trEq x t) = (((l.take k).any fun x => trEq x t) || trEq l[k] t) by rw [List.take_succ_eq_append_getElem hlt, List.any_append]; simp)
      have HTR := Lib.hid (show trEq l[k] t = true → trPut l t = l from fun he => by unfold trPut; rw [if_pos (List.any_eq_true.2 ⟨_, List.getElem_mem hlt, he⟩)])
      obtain ⟨u, hu⟩ : ∃ u, u = l[k] := ⟨_, rfl⟩
      rw [← hu] at e0 e1 e2 hs HSN HTR
      have HS := Lib.hid hs.drew
      clear hs hu
      go_wp2_with fail
      go_region_with (go_at_call 75; refine (l5Same_any _ S S' u t a2 a' c2 c' HS.out K1.out.drew.2).mono ?_; rintro e w1 ⟨rfl, hb⟩)
      all_goals
        have K3 := Lib.hid (K1.out.drew.step hb)
        have HB1 := Lib.hid (HB.out.drew.trans (hb.mono (by simpa using hwr)))
        clear hb x0 x1 x2
        cases he : trEq u t
        · have HE := Lib.hid he
          clear he
          go_wp2_with fail
          go_roundw
          case rel => exact ⟨k + 1, by omega, by go_num, by rw [HSN.out, HQ.out, HE.out]; rfl, HB1.out⟩
          case measure => simp [intOf]; omega
        · have HE := Lib.hid (HTR.out he)
          have HA := Lib.hid (H.out.below HB1.out)
          clear he
          go_wp2_with fail
          go_ret
          exact ⟨K3.out.done, S, _, _, by rw [HE.out]; rfl, by rw [HE.out]; exact HA.out⟩
    · have HNO := Lib.hid (show (l.any fun x => trEq x t) = false by have := HQ.out; rwa [List.take_of_length_le (by omega)] at this)
      have HL := Lib.hid (H.out.below HB.out)
      obtain ⟨us, hul, hsrc, hps⟩ := HL.out.cells
      have HUL := Lib.hid hul
      have HSRC := Lib.hid hsrc
      have HPS := Lib.hid hps
      have HFL := Lib.hid HL.out.fin
      have HFT := Lib.hid hft
      have HTC := Lib.hid (show (tcl (l.map Tr.raw) us).length = l.length * 3 by rw [tcl_len (by simp [hul])]; simp)
      have HONE := Lib.hid (tcl_one (l := l.map Tr.raw) (us := us) (by simp [hul]) (fun u hu => by
        obtain ⟨i, hi, rfl⟩ := List.getElem_of_mem hu
        obtain ⟨_, _, h1, _⟩ := hps i (by omega)
        rw [List.getElem?_eq_getElem hi] at h1
        rw [Option.some.inj h1]; simp [Value.oneCell']))
      have HLN := Lib.hid (show 0 + l.length + 1 ≤ 1000000 by omega)
      clear hul hsrc hps
      go_wp2_with fail
      go_region_held3 (fun w' => w'.cell? ⟨w.heap.size, 0, none⟩ = some (.int .i64 t.k) ∧ w'.cell? ⟨w.heap.size, 1, none⟩ = some (.slice a' t.u.length c') ∧ w'.cell? ⟨w.heap.size, 2, none⟩ = some (.int .i64 t.v)) (first | exact ⟨x0, x1, x2⟩ | exact ⟨y0, y1, y2⟩ | exact ⟨z0, z1, z2⟩ | go_keep) (first | (refine step_append_trs rfl (.tmp 19) (.tmp 20) rfl wr.heap.size (.slice (some ⟨wr.heap.size, 0, none⟩) 0 0) 0 [] rfl (by first | exact (trs_empty wr 0 #[] (by simp) (by omega)).row | exact ownA wr _) a l.length c (tcl (l.map Tr.raw) us) HTC.out rfl (HSRC.out _ (by repeat (first | exact Below.refl _ _ | refine Below.drew ?_ | refine Below.alloc ?_ (by simp) _))) HONE.out (by omega) (by simp <;> omega) ?_; intro v1 w1 hr hgr hn; have hb1 : Below wr.heap.size wr w1 := Below.trans (by repeat (first | exact Below.refl _ _ | refine Below.drew ?_ | refine Below.alloc ?_ (by simp) _)) (below_grown hgr (by simp <;> omega) (by intro k hk; simp [Value.ownBlock] at hk; show wr.heap.size ≤ k; omega)); obtain ⟨y0, y1, y2⟩ := (K1.out.step hb1).box) | (refine step_append_trs rfl (.tmp 19) (.tmp 20) rfl wr.heap.size (.slice (some ⟨wr.heap.size + 1, 0, none⟩) 0 0) 0 [] rfl (by exact ownB wr _) a l.length c (tcl (l.map Tr.raw) us) HTC.out rfl (HSRC.out _ (by repeat (first | exact Below.refl _ _ | refine Below.drew ?_ | refine Below.alloc ?_ (by simp) _))) HONE.out (by omega) (by simp <;> omega) ?_; intro v1 w1 hr hgr hn; have hb1 : Below wr.heap.size wr w1 := Below.trans (by repeat (first | exact Below.refl _ _ | refine Below.drew ?_ | refine Below.alloc ?_ (by simp) _)) (below_grown hgr (by simp <;> omega) (by intro k hk; simp [Value.ownBlock] at hk; show wr.heap.size ≤ k; omega)); obtain ⟨y0, y1, y2⟩ := (K1.out.step hb1).box) | (refine step_append_trs rfl (.tmp 21) (.tmp 23) rfl wr.heap.size v1 (0 + l.length) ([] ++ tcl (l.map Tr.raw) us) rfl (World.ownsRow.alloc hr _) (some ⟨w1.heap.size, 0, none⟩) 1 1 [.int .i64 t.k, .slice a' t.u.length c', .int .i64 t.v] rfl rfl (.inr ⟨_, rfl, row3 w1 _ _ _⟩) (one3 _ _ _ _ _) HLN.out (le_alloc hb1 _) ?_; intro v2 w2 hr2 hgr2 hn2; have hb2 : Below wr.heap.size wr w2 := belowPut hb1 hr hgr2; obtain ⟨z0, z1, z2⟩ := (K1.out.step hb2).box) | (refine step_append_trs rfl (.tmp 21) (.tmp 23) rfl wr.heap.size v1 (0 + l.length) ([] ++ tcl (l.map Tr.raw) us) rfl (show w1.ownsRow wr.heap.size 25 3 v1 (0 + l.length) ([] ++ tcl (l.map Tr.raw) us) from hr) (some ⟨wr.heap.size + 1, 0, none⟩) 1 1 [.int .i64 t.k, .slice a' t.u.length c', .int .i64 t.v] rfl rfl (.inr ⟨_, rfl, row3b (w := w1) (show Blk w1 (wr.heap.size + 1) 25 #[.int .i64 t.k, .slice a' t.u.length c', .int .i64 t.v] from by refine blk_fr ?_ (fr_grown hgr) (by simp [Value.ownBlock]); exact blkV2 wr _ _ _)⟩) (one3 _ _ _ _ _) HLN.out (show wr.heap.size ≤ w1.heap.size from hb1.size) ?_; intro v2 w2 hr2 hgr2 hn2; have hb2 : Below wr.heap.size wr w2 := belowPut' (w1 := w1) hb1 (show w1.ownsRow wr.heap.size 25 3 v1 (0 + l.length) ([] ++ tcl (l.map Tr.raw) us) from hr) hgr2; obtain ⟨z0, z1, z2⟩ := (K1.out.step hb2).box) | (refine step_append_trs rfl (.tmp 21) (.tmp 23) rfl wr.heap.size v1 (0 + l.length) ([] ++ tcl (l.map Tr.raw) us) rfl (show w1.ownsRow wr.heap.size 25 3 v1 (0 + l.length) ([] ++ tcl (l.map Tr.raw) us) from hr) (some ⟨wr.heap.size, 0, none⟩) 1 1 [.int .i64 t.k, .slice a' t.u.length c', .int .i64 t.v] rfl rfl (.inr ⟨_, rfl, row3b (w := w1) (show Blk w1 (wr.heap.size) 25 #[.int .i64 t.k, .slice a' t.u.length c', .int .i64 t.v] from by refine blk_fr ?_ (fr_grown hgr) (by simp [Value.ownBlock]); exact blkV3 wr _ _ _)⟩) (one3 _ _ _ _ _) HLN.out (show wr.heap.size ≤ w1.heap.size from hb1.size) ?_; intro v2 w2 hr2 hgr2 hn2; have hb2 : Below wr.heap.size wr w2 := belowPut' (w1 := w1) hb1 (show w1.ownsRow wr.heap.size 25 3 v1 (0 + l.length) ([] ++ tcl (l.map Tr.raw) us) from hr) hgr2; obtain ⟨z0, z1, z2⟩ := (K1.out.step hb2).box) | (refine step_append_trs rfl (.tmp 21) (.tmp 23) rfl wr.heap.size v1 (0 + l.length) ([] ++ tcl (l.map Tr.raw) us) rfl (show w1.drew.ownsRow wr.heap.size 25 3 v1 (0 + l.length) ([] ++ tcl (l.map Tr.raw) us) from hr) (some ⟨wr.heap.size + 1, 0, none⟩) 1 1 [.int .i64 t.k, .slice a' t.u.length c', .int .i64 t.v] rfl rfl (.inr ⟨_, rfl, row3b (w := w1.drew) (show Blk w1.drew (wr.heap.size + 1) 25 #[.int .i64 t.k, .slice a' t.u.length c', .int .i64 t.v] from by refine blk_fr ?_ (fr_grown hgr) (by simp [Value.ownBlock]); exact blkV2 wr _ _ _)⟩) (one3 _ _ _ _ _) HLN.out (show wr.heap.size ≤ w1.drew.heap.size from hb1.size) ?_; intro v2 w2 hr2 hgr2 hn2; have hb2 : Below wr.heap.size wr w2 := belowPut' (w1 := w1.drew) hb1.drew (show w1.drew.ownsRow wr.heap.size 25 3 v1 (0 + l.length) ([] ++ tcl (l.map Tr.raw) us) from hr) hgr2; obtain ⟨z0, z1, z2⟩ := (K1.out.step hb2).box) | (refine step_append_trs rfl (.tmp 21) (.tmp 23) rfl wr.heap.size v1 (0 + l.length) ([] ++ tcl (l.map Tr.raw) us) rfl (show w1.drew.ownsRow wr.heap.size 25 3 v1 (0 + l.length) ([] ++ tcl (l.map Tr.raw) us) from hr) (some ⟨wr.heap.size, 0, none⟩) 1 1 [.int .i64 t.k, .slice a' t.u.length c', .int .i64 t.v] rfl rfl (.inr ⟨_, rfl, row3b (w := w1.drew) (show Blk w1.drew (wr.heap.size) 25 #[.int .i64 t.k, .slice a' t.u.length c', .int .i64 t.v] from by refine blk_fr ?_ (fr_grown hgr) (by simp [Value.ownBlock]); exact blkV3 wr _ _ _)⟩) (one3 _ _ _ _ _) HLN.out (show wr.heap.size ≤ w1.drew.heap.size from hb1.size) ?_; intro v2 w2 hr2 hgr2 hn2; have hb2 : Below wr.heap.size wr w2 := belowPut' (w1 := w1.drew) hb1.drew (show w1.drew.ownsRow wr.heap.size 25 3 v1 (0 + l.length) ([] ++ tcl (l.map Tr.raw) us) from hr) hgr2; obtain ⟨z0, z1, z2⟩ := (K1.out.step hb2).box) | (refine step_append_trs rfl (.tmp 21) (.tmp 23) rfl wr.heap.size v1 (0 + l.length) ([] ++ tcl (l.map Tr.raw) us) rfl (show w1.drew.drew.ownsRow wr.heap.size 25 3 v1 (0 + l.length) ([] ++ tcl (l.map Tr.raw) us) from hr) (some ⟨wr.heap.size + 1, 0, none⟩) 1 1 [.int .i64 t.k, .slice a' t.u.length c', .int .i64 t.v] rfl rfl (.inr ⟨_, rfl, row3b (w := w1.drew.drew) (show Blk w1.drew.drew (wr.heap.size + 1) 25 #[.int .i64 t.k, .slice a' t.u.length c', .int .i64 t.v] from by refine blk_fr ?_ (fr_grown hgr) (by simp [Value.ownBlock]); exact blkV2 wr _ _ _)⟩) (one3 _ _ _ _ _) HLN.out (show wr.heap.size ≤ w1.drew.drew.heap.size from hb1.size) ?_; intro v2 w2 hr2 hgr2 hn2; have hb2 : Below wr.heap.size wr w2 := belowPut' (w1 := w1.drew.drew) hb1.drew.drew (show w1.drew.drew.ownsRow wr.heap.size 25 3 v1 (0 + l.length) ([] ++ tcl (l.map Tr.raw) us) from hr) hgr2; obtain ⟨z0, z1, z2⟩ := (K1.out.step hb2).box) | (refine step_append_trs rfl (.tmp 21) (.tmp 23) rfl wr.heap.size v1 (0 + l.length) ([] ++ tcl (l.map Tr.raw) us) rfl (show w1.drew.drew.ownsRow wr.heap.size 25 3 v1 (0 + l.length) ([] ++ tcl (l.map Tr.raw) us) from hr) (some ⟨wr.heap.size, 0, none⟩) 1 1 [.int .i64 t.k, .slice a' t.u.length c', .int .i64 t.v] rfl rfl (.inr ⟨_, rfl, row3b (w := w1.drew.drew) (show Blk w1.drew.drew (wr.heap.size) 25 #[.int .i64 t.k, .slice a' t.u.length c', .int .i64 t.v] from by refine blk_fr ?_ (fr_grown hgr) (by simp [Value.ownBlock]); exact blkV3 wr _ _ _)⟩) (one3 _ _ _ _ _) HLN.out (show wr.heap.size ≤ w1.drew.drew.heap.size from hb1.size) ?_; intro v2 w2 hr2 hgr2 hn2; have hb2 : Below wr.heap.size wr w2 := belowPut' (w1 := w1.drew.drew) hb1.drew.drew (show w1.drew.drew.ownsRow wr.heap.size 25 3 v1 (0 + l.length) ([] ++ tcl (l.map Tr.raw) us) from hr) hgr2; obtain ⟨z0, z1, z2⟩ := (K1.out.step hb2).box))
      all_goals
        obtain ⟨a9, c9, rfl, S9, hat⟩ := putShort (n := 0 + l.length + 1) hb2 HUL.out HPS.out HFL.out HFT.out K1.out.2 (by omega) (by simpa using hr2)
        have HAT := Lib.hid hat
        have KE := Lib.hid (K1.out.step hb2).done
        clear hr hgr hn hb1 hr2 hgr2 hn2 hb2 hat x0 x1 x2
        by_cases hbig : l.length = 60
        · obtain ⟨x, r, rfl⟩ : ∃ x r, l = x :: r := by
            cases l with
            | nil => simp at hbig
            | cons x r => exact ⟨x, r, rfl⟩
          have hrl : r.length = 59 := by simpa using hbig
          have HRE := Lib.hid (show trPut (x :: r) t = r ++ [t] by unfold trPut; rw [HNO.out, if_neg (by simp), if_pos hbig]; rfl)
          have hxc : r.length + 1 + 1 ≤ c9 := by have := HAT.out.1; simpa using this
          have hcm : c9 ≤ 9223372036854775807 := HAT.out.2.1
          have hc1 : ¬ c9 = 1 := by omega
          have hc2 : 61 ≤ c9 := by omega
          obtain ⟨b0, o0, rfl, htl⟩ := RwAt.tail (l := r ++ [t]) HAT.out
          have HTL := Lib.hid (show TrsAt w2 S9 (r ++ [t]) (some ⟨b0, o0 + 3, none⟩) (c9 - 1) from htl)
          clear htl hbig
          go_wp2_with fail
          go_ret
          exact ⟨KE.out, S9, _, _, by rw [HRE.out, show (r ++ [t]).length = 60 by simp [hrl]]; rfl, by rw [HRE.out]; exact HTL.out⟩
        · have HRE := Lib.hid (show trPut l t = l ++ [t] by unfold trPut; rw [HNO.out, if_neg (by simp), if_neg hbig])
          go_wp2_with fail
          go_ret
          exact ⟨KE.out, S9, a9, c9, by rw [HRE.out, List.length_append]; rfl, by rw [HRE.out]; exact HAT.out⟩

set_option maxRecDepth 100000 in
set_option maxHeartbeats 4000000 in
theorem specPut_any (w : World) (S S' : Nat → Prop) (l : List Tr) (t : Tr) (a a' : Option Addr) (c c' : Nat) (h : TrsAt w S l a c) (h' : PrsAt w S' t.u a' c') (hft : i64ok t.k ∧ i64ok t.v) :
    Calls Try.prog 20 #[.slice a l.length c, .agg #[.int .i64 t.k, .slice a' t.u.length c', .int .i64 t.v]] w (TrsPost (ptO l t) (ptB l t) w) := by
  have hlen : l.length ≤ 9223372036854775807 := RwAt.len h
  have K0 := Lib.hid (Kt.start (ty := 25) h')
  have H := Lib.hid (h.alloc (.cells #[.int .i64 t.k, .slice a' t.u.length c', .int .i64 t.v] 25))
  have hsz := K0.out.size
  clear h h'
  obtain ⟨W, hW⟩ : ∃ W, W = w.alloc (.cells #[.int .i64 t.k, .slice a' t.u.length c', .int .i64 t.v] 25) := ⟨_, rfl⟩
  have HWW := Lib.hid hW
  rw [← hW] at K0 H hsz
  have HSZ := Lib.hid hsz
  clear hW
  have emp : ∀ w1 : World, Below w.heap.size w w1 → TrsPost [] false w (.returned (.tuple #[.slice (some ⟨w1.heap.size, 0, none⟩) 0 0, .bool false])) (w1.alloc (.cells #[] 25)) :=
    fun w1 hb => ⟨hb.alloc hb.size _, _, [], rfl, (trs_empty w1 0 #[] (by simp) (by omega)).low hb.size⟩
  have HEM := Lib.hid emp
  clear emp
  cases ht : trsOk l
  · have HT := Lib.hid ht
    have hr2 : ptB l t = false := by unfold ptB; rw [ht]; rfl
    have hr : ptO l t = [] := by unfold ptO; rw [hr2]; rfl
    rw [hr, hr2]
    clear hr hr2 ht
    go_enter Try.func20, Try.ntmps20
    go_wp2_with fail
    rw [← HWW.out]
    refine (specTrsOk_any _ S l a c H.out).mono ?_
    rintro e w1 ⟨rfl, hb⟩
    rw [HT.out]
    have K1 := Lib.hid (K0.out.step hb)
    clear hb
    go_wp2_with fail
    exact bodyPost_ret (v := .tuple #[.slice (some ⟨w1.heap.size, 0, none⟩) 0 0, .bool false]) (by simp [results, Try.results20, go_sem]) rfl (HEM.out _ K1.out.done)
  cases hv : t.ok
  · have HT := Lib.hid ht
    have HV := Lib.hid hv
    have hr2 : ptB l t = false := by unfold ptB; rw [ht, hv]; rfl
    have hr : ptO l t = [] := by unfold ptO; rw [hr2]; rfl
    rw [hr, hr2]
    clear hr hr2 ht hv
    go_enter Try.func20, Try.ntmps20
    go_wp2_with fail
    rw [← HWW.out]
    refine (specTrsOk_any _ S l a c H.out).mono ?_
    rintro e w1 ⟨rfl, hb⟩
    rw [HT.out]
    have K1 := Lib.hid (K0.out.step hb)
    clear hb
    obtain ⟨x0, x1, x2⟩ := K1.out.box
    go_wp2_with fail
    refine (l5One_any _ S' t a' c' K1.out.2).mono ?_
    rw [HV.out]
    rintro e w2 ⟨rfl, hb⟩
    have K2 := Lib.hid (K1.out.step hb)
    clear hb x0 x1 x2
    go_wp2_with fail
    exact bodyPost_ret (v := .tuple #[.slice (some ⟨w2.heap.size, 0, none⟩) 0 0, .bool false]) (by simp [results, Try.results20, go_sem]) rfl (HEM.out _ K2.out.done)
  · have HT := Lib.hid ht
    have HV := Lib.hid hv
    have HOK := Lib.hid (trsOk_all' ht)
    have hr2 : ptB l t = true := by unfold ptB; rw [ht, hv]; rfl
    have hr : ptO l t = trPut l t := by unfold ptO; rw [hr2]; rfl
    rw [hr, hr2]
    have hUL := Tr.ok_len hv
    have HPU := Lib.hid (show ∀ x ∈ trPut l t, x.u.length ≤ 1000 from fun x hx => by
      unfold trPut at hx
      split at hx
      · have := Tr.ok_len (HOK.out.2 x hx); omega
      · rw [List.mem_append, List.mem_singleton] at hx
        rcases hx with hx | rfl
        · have hx' : x ∈ l := by
            split at hx
            · exact List.mem_of_mem_drop hx
            · exact hx
          have := Tr.ok_len (HOK.out.2 x hx'); omega
        · omega)
    have HPL := Lib.hid (show (trPut l t).length ≤ 1000 by
      have := HOK.out.1
      unfold trPut
      split
      · omega
      · rw [List.length_append]; split <;> simp <;> omega)
    clear hr hr2 ht hv
    obtain ⟨P, hP⟩ : ∃ P, P = trPut l t := ⟨_, rfl⟩
    have HP := Lib.hid hP
    rw [← hP] at HPU HPL ⊢
    clear hP
    go_enter Try.func20, Try.ntmps20
    go_wp2_with fail
    rw [← HWW.out]
    refine (specTrsOk_any _ S l a c H.out).mono ?_
    rintro e w1 ⟨rfl, hb⟩
    rw [HT.out]
    have K1 := Lib.hid (K0.out.step hb)
    have H1 := Lib.hid (H.out.below hb)
    clear hb
    obtain ⟨x0, x1, x2⟩ := K1.out.box
    go_wp2_with fail
    refine (l5One_any _ S' t a' c' K1.out.2).mono ?_
    rw [HV.out]
    rintro e w2 ⟨rfl, hb⟩
    have K2 := Lib.hid (K1.out.step hb)
    have H2 := Lib.hid (H1.out.below hb)
    clear hb x0 x1 x2
    obtain ⟨x0, x1, x2⟩ := K2.out.box
    go_wp2_with fail
    refine (l5Put_any _ S S' l t a a' c c' H2.out K2.out.2 hft HOK.out.1).mono ?_
    rw [← HP.out]
    rintro e w3 ⟨hb, S3, a3, c3, rfl, hat⟩
    have K3 := Lib.hid (K2.out.step hb)
    have HA := Lib.hid hat
    clear hb hat x0 x1 x2
    go_wp2_with fail
    refine (l5All_any _ S3 P a3 c3 HA.out HPL.out HPU.out).mono ?_
    rintro e w4 ⟨v, us, rfl, ho, hb⟩
    have K4 := Lib.hid (K3.out.step hb)
    have HO := Lib.hid ho
    have HS3 := Lib.hid K3.out.size
    clear hb ho
    go_wp2_with fail
    exact bodyPost_ret (v := .tuple #[v, .bool true]) (by simp [results, Try.results20, go_sem]) rfl ⟨K4.out.done, _, us, rfl, HO.out.low (by have := HS3.out; omega)⟩
end Go.Proofs.Ytjbggeeadodmpaa
