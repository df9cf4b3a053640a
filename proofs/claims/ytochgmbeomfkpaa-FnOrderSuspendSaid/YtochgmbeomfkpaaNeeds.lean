/- impl.noteNeeds -/
import Derived.Test.YtochgmbeomfkpaaMapG
import Derived.Test.YtochgmbeomfkpaaCntN
import Derived.Test.YtochgmbeomfkpaaBelS
import Derived.Test.YtochgmbeomfkpaaOrdP
import Derived.Test.YtochgmbeomfkpaaBs2
import Derived.Deep.RegionHeld3
import Derived.Deep.RegionLaw
namespace Go.Proofs.Ytochgmbeomfkpaa
open Go.RowKit

theorem same_cellN {w w' : World} {b o : Nat} {v : Value} (e : w'.heap[b]? = w.heap[b]?) (h : w.cell? ⟨b, o, none⟩ = some v) : w'.cell? ⟨b, o, none⟩ = some v :=
  (World.cell?_of_block (w := w) (a := ⟨b, o, none⟩) e).trans h
theorem MapG.upd {w : World} {b n : Nat} {f : Int → Option (Option (Nat × Nat × Nat))} (h : MapG w b n f) {t : TypeId} (ht : Try.prog.underlying t = some (.map 3 26)) (hn : n < maxLen) {k : Int} (hk : i64ok k) (hd : Option (Nat × Nat × Nat)) :
    ∃ w', (Instr.mapUpdate t (.map (some b)) (.int .i64 k) (mkH hd)).run Try.prog w = .ok () w' ∧ MapG w' b (n + 1) (updG f k hd) ∧ Fr (fun y => y = b) w w' := by
  obtain ⟨D, h1, h2⟩ := h
  have hdm : Maps.IsMap D := h1.isMap
  obtain ⟨w', hrun, r1, r2⟩ := h1.update (t := t) keyedInt ht hn (Go.Maps.keyOf_int_mk Try.underlying3 (WalkArith.wf_i64 hk)) (rdH_mk hd)
  refine ⟨w', hrun, ⟨_, r1, fun y hy => ?_⟩, ⟨r2.os, r2.tape, r2.output, r2.size, fun y hy hn => r2.block y hy (fun e => hn (by injection e))⟩⟩
  unfold updG
  by_cases hyk : y = k
  · subst hyk
    rw [if_pos rfl]
    exact ⟨Maps.has_put_same hdm (by exact trivial) _, fun zd => Maps.atKey_put_same hdm (by exact trivial) _ zd⟩
  · rw [if_neg hyk]
    have hne : Lit.int .i64 y ≠ Lit.int .i64 k := by intro e; injection e with _ e; exact hyk e
    exact ⟨by rw [Maps.has_put_other hne]; exact (h2 y hy).1, fun zd => by rw [Maps.atKey_put_other hne]; exact (h2 y hy).2 zd⟩

/-- The header of a row. -/
theorem hdr_of {w : World} {base : Nat} {v : Value} {l : List Int} (h : NumRow w base v l) : ∃ hd, v = mkH hd := by
  obtain ⟨_, ⟨rfl, _⟩ | ⟨g, cap, cur, rfl, _⟩⟩ := h
  · exact ⟨none, rfl⟩
  · exact ⟨some (g, l.length, cap), rfl⟩
theorem chL_may {s : Sh} (k : Nat) : (mayI (s.tk k) 10).filter s.mdI = chL s (k : Int) := by
  rw [chL_nat]
  unfold l3L
  congr 1
  funext j
  unfold l3p
  cases hm : s.mdI j
  · simp
  · rw [decide_eq_true (mdI_bd hm).2]; rfl

/-- Block b is a map that holds for each key of D the made keys that it may fetch. -/
def NdG (w : World) (b : Nat) (s : Sh) (D : Int → Bool) : Prop :=
  ∃ (f : Int → Option (Option (Nat × Nat × Nat))) (M : List Int), M.Nodup ∧ (∀ x ∈ M, (0 ≤ x ∧ x < s.m.length) ∧ D x = true) ∧ MapG w b M.length f ∧ (∀ k, (f k).isSome = D k) ∧ ∀ k h, f k = some h → NumRow w (b + 1) (mkH h) (chL s k)
theorem NdG.start (s : Sh) (w : World) : NdG (w.alloc (.map #[] 0)) w.heap.size s (fun _ => false) := ⟨fun _ => none, [], List.nodup_nil, (by intro x hx; cases hx), MapG.made w, fun _ => rfl, (by intro k h hf; cases hf)⟩
theorem NdG.lt {w : World} {b : Nat} {s : Sh} {D : Int → Bool} (h : NdG w b s D) : b < w.heap.size := by obtain ⟨f, M, _, _, hm, _⟩ := h; exact hm.lt
theorem NdG.step {w w' : World} {b : Nat} {s : Sh} {D : Int → Bool} (h : NdG w b s D) (hb : Below w.heap.size w w') : NdG w' b s D := by
  obtain ⟨f, M, h1, h2, h3, h4, h5⟩ := h
  exact ⟨f, M, h1, h2, h3.step hb, h4, fun k hd hf => ElRow.below (f := Value.int .i64) (e := 3) (h5 k hd hf) hb⟩
/-- What was noted is put. -/
theorem NdG.put {w w' : World} {b : Nat} {s : Sh} {D : Int → Bool} {k : Int} {hd : Option (Nat × Nat × Nat)} {f : Int → Option (Option (Nat × Nat × Nat))} {M : List Int} (h1 : M.Nodup) (h2 : ∀ x ∈ M, (0 ≤ x ∧ x < s.m.length) ∧ D x = true) (h4 : ∀ k, (f k).isSome = D k)
    (h5 : ∀ k h, f k = some h → NumRow w (b + 1) (mkH h) (chL s k)) (hk : 0 ≤ k ∧ k < s.m.length) (hD : D k = false) (hm : MapG w' b (M.length + 1) (updG f k hd)) (hf : Fr (fun y => y = b) w w') (hr : NumRow w (b + 1) (mkH hd) (chL s k)) : NdG w' b s (upd D k) := by
  have hown : ∀ {v : Value} {l : List Int}, NumRow w (b + 1) v l → NumRow w' (b + 1) v l := fun h => ownsRow_fr h hf (fun y hy e => by have := own_ge h y hy; omega)
  refine ⟨updG f k hd, k :: M, List.nodup_cons.2 ⟨(fun hm => by rw [(h2 k hm).2] at hD; cases hD), h1⟩, fun x hx => ?_, hm, fun x => ?_, fun x h hx => ?_⟩
  · unfold upd
    rcases List.mem_cons.1 hx with e | hx
    · subst e; exact ⟨hk, by simp⟩
    · exact ⟨(h2 x hx).1, by simp [(h2 x hx).2]⟩
  · unfold updG upd
    by_cases e : x = k
    · simp [e]
    · simp [e, h4 x]
  · unfold updG at hx
    split at hx
    · rename_i e
      injection hx with hx
      subst hx
      rw [e]
      exact hown hr
    · exact hown (h5 x h hx)

def NtPost (b : Nat) (s : Sh) (D : Int → Bool) (k : Int) (w : World) (e : Ending) (w' : World) : Prop := e = .returned (.tuple #[]) ∧ (∃ D', NotP s.mdI (chL s) D [k] D' ∧ NdG w' b s D') ∧ Fr (fun y => y = b) w w'
def NoteT (b d : Nat) (s : Sh) : Prop := ∀ (w : World) (D : Int → Bool) (k : Nat) (S : Nat → Prop) (a : Option Addr) (c : Nat) (a' : Option Addr) (c' : Nat), s.m.length - cntN D s.m.length ≤ d → ShAt w S s a c a' c' → (∀ y, S y → y ≠ b) → k < s.m.length → NdG w b s D →
  Calls Try.prog 36 #[.agg #[.slice a s.m.length c, .slice a' s.t.length c'], .int .i64 k, .map (some b)] w (NtPost b s D k w)

set_option maxRecDepth 100000 in
set_option maxHeartbeats 4000000 in
theorem note_step (b d : Nat) (s : Sh) (hok : s.ok = true) (ih : ∀ d', d' < d → NoteT b d' s) : NoteT b d s := by
  intro w D k S0 a c a' c' hd h0 hS0 hk hnd
  obtain ⟨S, hSd⟩ : ∃ S : Nat → Prop, S = fun y => S0 y ∧ y < w.heap.size := ⟨_, rfl⟩
  have hSl : ∀ y, S y → y < w.heap.size ∧ y ≠ b := by rw [hSd]; exact fun y h => ⟨h.2, hS0 y h.1⟩
  have h : ShAt w S s a c a' c' := by rw [hSd]; exact h0.lim
  have HSL := Lib.hid hSl
  have HIH := Lib.hid ih
  have HO := Lib.hid hok
  have HDD := Lib.hid hd
  have hm10 : s.m.length ≤ 10 := (Sh.ok_iff.1 hok).1
  have htl := (Sh.ok_iff.1 hok).2.1
  have hkt : k < s.t.length := by omega
  have hblt := hnd.lt
  have K0 := Lib.hid (Ks.start (ty := 32) h)
  have N0 := Lib.hid (hnd.step ((Below.refl w.heap.size w).alloc (Nat.le_refl _) (.cells #[.slice a s.m.length c, .slice a' s.t.length c'] 32)))
  have F0 := Lib.hid (show Fr (fun y => y = b) w (w.alloc (.cells #[.slice a s.m.length c, .slice a' s.t.length c'] 32)) from Fr.of_below ((Below.refl w.heap.size w).alloc (Nat.le_refl _) _))
  have P0 := Lib.hid (Blk.new w 32 #[.slice a s.m.length c, .slice a' s.t.length c'])
  obtain ⟨f, M, n1, n2, n3, n4, n5⟩ := N0.out
  have hki : i64ok (k : Int) := by unfold i64ok; omega
  have hlook := n3.look_ok Try.underlying57 hki
  rw [n4 k] at hlook
  have hMl : M.length ≤ 10 := by have := nodup_bound s.m.length M n1 (fun x hx => (n2 x hx).1); omega
  have HM := Lib.hid (And.intro n1 (And.intro n2 (And.intro n3 (And.intro n4 n5))))
  have HKI := Lib.hid hki
  obtain ⟨W, hW⟩ : ∃ W, W = w.alloc (.cells #[.slice a s.m.length c, .slice a' s.t.length c'] 32) := ⟨_, rfl⟩
  have HWW := Lib.hid hW
  have hWs : W.heap.size = w.heap.size + 1 := by rw [hW]; simp
  rw [← hW] at K0 N0 F0 HM P0
  obtain ⟨x0, x1⟩ := K0.out.box
  rw [hW] at x0 x1
  clear htl h h0 hS0 hSd hSl ih hok hd hnd n1 n2 n3 n4 n5 hki hW
  cases hDk : D (k : Int)
  case true =>
    rw [hDk] at hlook
    have HNP := Lib.hid (show NotP s.mdI (chL s) D [(k : Int)] D from NotP.skip (.inl hDk))
    clear hDk
    go_enter Try.func36, Try.ntmps36
    go_wp2_with fail
    rw [← HWW.out]
    go_end0
    exact ⟨rfl, ⟨D, HNP.out, N0.out⟩, F0.out⟩
  rw [hDk] at hlook
  have HDK := Lib.hid hDk
  clear hDk
  go_enter Try.func36, Try.ntmps36
  go_wp2_with fail
  rw [← HWW.out]
  clear hlook x0 x1
  refine (isMade_any s W S a c a' c' k K0.out.2).mono ?_
  rintro e w1 ⟨rfl, hb⟩
  have K1 := Lib.hid (K0.out.step hb)
  have N1 := Lib.hid (N0.out.step hb)
  have F1 := Lib.hid (F0.out.trans (Fr.of_below (D := fun y => y = b) hb) (fun y hy => .inl hy))
  have HM1 := Lib.hid (show MapG w1 b M.length f ∧ ∀ k h, f k = some h → NumRow w1 (b + 1) (mkH h) (chL s k) from ⟨HM.out.2.2.1.step hb, fun k h hf => ElRow.below (f := Value.int .i64) (e := 3) (HM.out.2.2.2.2 k h hf) hb⟩)
  have P1 := Lib.hid (P0.out.below hb P0.out.lt)
  have hs1 := hb.size
  clear hb
  cases hmd : s.mdI (k : Int)
  · have HNP := Lib.hid (show NotP s.mdI (chL s) D [(k : Int)] D from NotP.skip (.inr hmd))
    clear hmd
    go_wp2_with fail
    go_end0
    exact ⟨rfl, ⟨D, HNP.out, N1.out⟩, F1.out⟩
  have HMD := Lib.hid hmd
  have HCG := Lib.hid (show s.m.length - cntN (upd D k) s.m.length < d ∧ 0 < d from by
    have hg := cntN_grow (m := D) (m' := upd D (k : Int)) (fun i hi => by unfold upd; simp [hi]) (k := k) HDK.out (by unfold upd; simp) s.m.length hk
    have hl := cntN_le (upd D (k : Int)) s.m.length
    have := HDD.out
    omega)
  clear hmd
  obtain ⟨b', o', a2, c2, ha', hbl, hSb, e0, e1, e2, hat, _, _⟩ := K1.out.2.2.elem (Below.refl _ _) hkt
  have hbb' : b' ≠ b := (HSL.out b' hSb).2
  have htk : s.t[k] = s.tk k := (getD_len hkt).symm
  rw [htk] at e0 e1 e2 hat
  have HA := Lib.hid ha'
  have HAT := Lib.hid hat
  have HMO := Lib.hid (show mayO (s.tk k) = mayI (s.tk k) 10 by unfold mayO; rw [if_pos (s.tk_ok HO.out k)])
  have HCC := Lib.hid (show ∀ w', Below w1.heap.size w1 w' → w'.cell? ⟨w.heap.size, 0, none⟩ = some (.slice a s.m.length c) ∧ w'.cell? ⟨w.heap.size, 1, none⟩ = some (.slice a' s.t.length c') ∧ w'.cell? ⟨b', o' + k * 3, none⟩ = some (.int .i64 (s.tk k).k) ∧ w'.cell? ⟨b', o' + k * 3 + 1, none⟩ = some (.int .i64 (s.tk k).n) ∧ w'.cell? ⟨b', o' + k * 3 + 2, none⟩ = some (.slice a2 (s.tk k).ps.length c2) from fun w' hb =>
    ⟨(K1.out.step hb).box.1, (K1.out.step hb).box.2, (hb.cell (p := ⟨b', o' + k * 3, none⟩) hbl).trans e0, (hb.cell (p := ⟨b', o' + k * 3 + 1, none⟩) hbl).trans e1, (hb.cell (p := ⟨b', o' + k * 3 + 2, none⟩) hbl).trans e2⟩)
  have HCF := Lib.hid (show ∀ w4 w' : World, Below w1.heap.size w1 w4 → Fr (fun y => y = b) w4 w' → w'.cell? ⟨w.heap.size, 0, none⟩ = some (.slice a s.m.length c) ∧ w'.cell? ⟨w.heap.size, 1, none⟩ = some (.slice a' s.t.length c') ∧ w'.cell? ⟨b', o' + k * 3, none⟩ = some (.int .i64 (s.tk k).k) ∧ w'.cell? ⟨b', o' + k * 3 + 1, none⟩ = some (.int .i64 (s.tk k).n) ∧ w'.cell? ⟨b', o' + k * 3 + 2, none⟩ = some (.slice a2 (s.tk k).ps.length c2) from fun w4 w' hb hf => by
    obtain ⟨y0, y1, y2, y3, y4⟩ := HCC.out w4 hb
    have hs := hb.size
    have g1 := hf.2.2.2.2 w.heap.size (by omega) (by omega)
    have g2 := hf.2.2.2.2 b' (by omega) hbb'
    exact ⟨same_cellN g1 y0, same_cellN g1 y1, same_cellN g2 y2, same_cellN g2 y3, same_cellN g2 y4⟩)
  have HLB := Lib.hid (show ∀ x ∈ mayI (s.tk k) 10, i64ok x from fun x hx => by have := mayI_mem.1 hx; unfold i64ok; omega)
  have HLL := Lib.hid (show (mayI (s.tk k) 10).length ≤ 1000000 from Nat.le_trans (mayI_len _ _) (by decide))
  have HML := Lib.hid (show maxLen = 9223372036854775807 from rfl)
  have HDY := Lib.hid (fun (w3 : World) (hb : Below w1.heap.size w1 w3) => (show MapG w3 b M.length f ∧ ∀ k h, f k = some h → NumRow w3 (b + 1) (mkH h) (chL s k) from ⟨HM1.out.1.step hb, fun k h hf => ElRow.below (f := Value.int .i64) (e := 3) (HM1.out.2 k h hf) hb⟩))
  have hbw1 : b < w1.heap.size := by omega
  clear htk ha' hat e0 e1 e2
  obtain rfl := HA.out
  obtain ⟨p0, p1, p2, p3, p4⟩ := HCC.out w1 (Below.refl _ _)
  obtain ⟨x0, x1, x2, x3, x4⟩ := HCC.out w1.drew (Below.refl _ _).drew
  go_wp2_with fail
  go_region_held3 (fun w' => w'.cell? ⟨w.heap.size, 0, none⟩ = some (.slice a s.m.length c) ∧ w'.cell? ⟨w.heap.size, 1, none⟩ = some (.slice (some ⟨b', o', none⟩) s.t.length c') ∧ w'.cell? ⟨b', o' + k * 3, none⟩ = some (.int .i64 (s.tk k).k) ∧ w'.cell? ⟨b', o' + k * 3 + 1, none⟩ = some (.int .i64 (s.tk k).n) ∧ w'.cell? ⟨b', o' + k * 3 + 2, none⟩ = some (.slice a2 (s.tk k).ps.length c2)) (first | exact ⟨x0, x1, x2, x3, x4⟩ | exact ⟨z0, z1, z2, z3, z4⟩ | exact ⟨v0, v1, v2, v3, v4⟩ | exact ⟨q0, q1, q2, q3, q4⟩ | go_keep) (first
    | (go_at_call 66; refine (implMay_any (s.tk k) _ S a2 c2 HAT.out.drew).mono ?_; rintro e w3 ⟨hb3, u3, rfl, hr3⟩; rw [HMO.out] at hr3; obtain ⟨a3, c3, rfl, hia⟩ := hr3.at HLB.out; obtain ⟨z0, z1, z2, z3, z4⟩ := HCC.out w3 ((Below.refl _ _).drew.trans hb3))
    | (go_at_call 48; refine (madeOf_any s (mayI (s.tk k) 10) w3 S _ a c (some ⟨b', o', none⟩) c' a3 c3 (K1.out.2.drew.below hb3) hia HLL.out).mono ?_; rintro e w4 ⟨u4, rfl, hr4, hb4⟩; rw [chL_may] at hr4; obtain ⟨hd4, rfl⟩ := hdr_of hr4; obtain ⟨v0, v1, v2, v3, v4⟩ := HCC.out w4 (((Below.refl _ _).drew.trans hb3).trans (hb4.mono hb3.size)); obtain ⟨w5, hup, hm5, hf5⟩ := (HDY.out w4 (((Below.refl _ _).drew.trans hb3).trans (hb4.mono hb3.size))).1.upd Try.underlying57 (by rw [HML.out]; omega) HKI.out hd4; obtain ⟨q0, q1, q2, q3, q4⟩ := HCF.out w4 w5 (((Below.refl _ _).drew.trans hb3).trans (hb4.mono hb3.size)) hf5))
  have hb14 : Below w1.heap.size w1 w4 := ((Below.refl _ _).drew.trans hb3).trans (hb4.mono hb3.size)
  have hs14 := hb14.size
  have hr4' : NumRow w4 (b + 1) (mkH hd4) (chL s (k : Int)) := ownsRow_low hr4 (by have := hb3.size; have hd : w1.drew.heap.size = w1.heap.size := rfl; omega)
  obtain ⟨a5, c5, hmk, hia5⟩ := hr4'.at (fun x hx => by have := chL_bd hx; unfold i64ok; omega)
  have hl5 := hm5.look Try.underlying57 HKI.out
  have hup2 : (updG f (k : Int) hd4 (k : Int)).getD none = hd4 := by unfold updG; rw [if_pos rfl]; rfl
  rw [hup2, hmk] at hl5
  have N5 := Lib.hid (NdG.put HM.out.1 HM.out.2.1 HM.out.2.2.2.1 (HDY.out w4 hb14).2 (by omega) HDK.out hm5 hf5 hr4')
  have hs5 := hf5.2.2.2.1
  have T5 := Lib.hid ((K1.out.2.below hb14).fr hf5 (fun y hy e => (HSL.out y hy).2 e))
  have B5 := Lib.hid ((P1.out.below hb14 P1.out.lt).fr hf5 (by omega))
  have I5 := Lib.hid (hia5.fr hf5 (fun y hy e => by omega))
  have F5 := Lib.hid ((F1.out.trans (Fr.of_below (D := fun y => y = b) hb14) (fun y hy => .inl hy)).trans hf5 (fun y hy => .inl hy))
  have hw5 : w.heap.size < w5.heap.size := by omega
  clear hb3 hr3 hia hr4 hb4 hb14 hr4' hia5 hup2 hup hm5 hf5 hmk p0 p1 p2 p3 p4 x0 x1 x2 x3 x4 z0 z1 z2 z3 z4 v0 v1 v2 v3 v4 q0 q1 q2 q3 q4 K1 N1 F1 HM1 HAT HCC HCF HDY P0 P1
  obtain ⟨L, hL⟩ : ∃ L, L = chL s (k : Int) := ⟨_, rfl⟩
  have HLB2 := Lib.hid (show ∀ x ∈ L, 0 ≤ x ∧ x < s.m.length by rw [hL]; exact fun x hx => chL_bd hx)
  have hLl : L.length ≤ 10 := by rw [hL]; exact chL_len s (k : Int)
  have HLE := Lib.hid hL
  rw [← hL] at I5 hl5
  clear hL
  go_wp2_with fail
  clear hl5
  go_loopw [37] (fun i wr => ∃ (q : Nat) (D' : Int → Bool), q ≤ L.length ∧ i = .int .i64 q ∧ NotP s.mdI (chL s) (upd D k) (L.take q) D' ∧ NdG wr b s D' ∧ ShAt wr S s a c (some ⟨b', o', none⟩) c' ∧ Blk wr w.heap.size 32 #[.slice a s.m.length c, .slice (some ⟨b', o', none⟩) s.t.length c'] ∧ IntsAt wr (fun y => b + 1 ≤ y) L a5 c5 ∧ Fr (fun y => y = b) w wr ∧ w.heap.size < wr.heap.size) (fun i _ => L.length - (intOf i).toNat)
  case atStart => exact ⟨0, upd D k, by omega, rfl, NotP.nil, N5.out, T5.out, B5.out, I5.out, F5.out, hw5⟩
  case round =>
    obtain ⟨q, D', hq, rfl, hnp, hnd, hsh, hbk, hia, hfr, hsz⟩ := hrel
    have HNP := Lib.hid hnp
    have HND := Lib.hid hnd
    have HSH := Lib.hid hsh
    have HBK := Lib.hid hbk
    have HIA := Lib.hid hia
    have HFR := Lib.hid hfr
    clear hnp hnd hsh hbk hfr N5 T5 B5 I5 F5
    obtain ⟨x0, x1, -⟩ := HBK.out.two
    by_cases hlt : q < L.length
    · obtain ⟨bi, oi, hai, hbi, _, hx⟩ := hia.get (Below.refl _ _) hlt
      have hxb := HLB2.out L[q] (List.getElem_mem hlt)
      have HTK := Lib.hid (show L.take (q + 1) = L.take q ++ [L[q]] from List.take_succ_eq_append_getElem hlt)
      obtain ⟨xn, hxn⟩ : ∃ xn : Nat, L[q] = (xn : Int) := ⟨L[q].toNat, by omega⟩
      rw [hxn] at hx HTK
      have hxs : xn < s.m.length := by omega
      have HAI := Lib.hid hai
      have HCL := Lib.hid (HIH.out (s.m.length - cntN D' s.m.length) (by
        have := cntN_mono (m := upd D (k : Int)) (m' := D') (fun i hi => HNP.out.sub i hi) s.m.length
        have := HCG.out
        omega) wr D' xn S a c (some ⟨b', o', none⟩) c' (Nat.le_refl _) HSH.out (fun y hy => (HSL.out y hy).2) hxs HND.out)
      clear hia hai hxb hxn
      obtain rfl := HAI.out
      go_wp2_with fail
      refine HCL.out.mono ?_
      rintro e w6 ⟨rfl, ⟨D2, hnp2, hnd2⟩, hf6⟩
      have hs6 := hf6.2.2.2.1
      have H6 := Lib.hid (show NotP s.mdI (chL s) (upd D k) (L.take (q + 1)) D2 ∧ NdG w6 b s D2 ∧ ShAt w6 S s a c (some ⟨b', o', none⟩) c' ∧ Blk w6 w.heap.size 32 #[.slice a s.m.length c, .slice (some ⟨b', o', none⟩) s.t.length c'] ∧ IntsAt w6 (fun y => b + 1 ≤ y) L (some ⟨bi, oi, none⟩) c5 ∧ Fr (fun y => y = b) w w6 ∧ w.heap.size < w6.heap.size from
        ⟨by rw [HTK.out]; exact HNP.out.snoc hnp2, hnd2, HSH.out.fr hf6 (fun y hy e => (HSL.out y hy).2 e), HBK.out.fr hf6 (by omega), HIA.out.fr hf6 (fun y hy e => by omega), HFR.out.trans hf6 (fun y hy => .inl hy), by omega⟩)
      clear hnp2 hnd2 hf6 x0 x1 hx HCL
      go_wp2_with fail
      go_roundw
      case rel => exact ⟨q + 1, D2, by omega, by go_num, H6.out⟩
      case measure => simp [intOf]; omega
    · have HEND := Lib.hid (show NotP s.mdI (chL s) D [(k : Int)] D' from NotP.note HMD.out (by have h := HNP.out; rw [List.take_of_length_le (by omega), HLE.out] at h; exact h))
      clear hia
      go_wp2_with fail
      go_end0
      exact ⟨rfl, ⟨D', HEND.out, HND.out⟩, HFR.out⟩

theorem note_all (b : Nat) (s : Sh) (hok : s.ok = true) (d : Nat) : NoteT b d s := by
  induction d using Nat.strongRecOn with
  | _ d ih => exact note_step b d s hok ih
end Go.Proofs.Ytochgmbeomfkpaa
