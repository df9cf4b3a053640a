/- several texts in one: RstP, SusP, LawDSu -/
import Derived.Test.YtochgmbeomfkpaaOrdE
import Derived.Test.YtochgmbeomfkpaaBnds
import Derived.Test.YtochgmbeomfkpaaTp1
import Derived.Test.YtochgmbeomfkpaaKd1
import Derived.Test.YtochgmbeomfkpaaKo1
import Derived.Test.YtochgmbeomfkpaaRs1
import Derived.Test.YtochgmbeomfkpaaLawDMay
import Derived.Test.YtochgmbeomfkpaaBs2
import Derived.BigQuiet
import Derived.StillTailTactics
/- what restarting and suspending have in common, and how often a key is tried: plain words, no program -/
namespace Go.Proofs.Ytochgmbeomfkpaa
open Go.RowKit

/-- Who waits is told in the end. -/
theorem ends_mem {ch : Int → List Int} {d : Int → Bool} {q o : List Int} {m : Nat} (h : Ends emS ch d q o m) : ∀ k ∈ q, d k = false → k ∈ o := by
  induction h with
  | nil d => intro k hk; simp at hk
  | @skip d f q o m hf _ ih =>
    intro k hk hd
    rcases List.mem_cons.1 hk with rfl | hk
    · rw [hd] at hf; cases hf
    · exact ih k hk hd
  | @fin d f q o m hf hn _ ih =>
    intro k hk hd
    rw [List.mem_append]
    by_cases hkf : k = f
    · subst hkf; left; simp [emS]
    · right
      rcases List.mem_cons.1 hk with h | hk
      · exact absurd h hkf
      · exact ih k hk (by unfold upd; rw [hd, decide_eq_false hkf]; rfl)
  | @more d f j q o m hf hn _ ih =>
    intro k hk hd
    rw [List.mem_append]
    exact .inr (ih k (by rw [List.mem_cons]; exact .inr hk) hd)

/-- Suspending tells the same keys as restarting. -/
theorem ends_both {ch : Int → List Int} {d : Int → Bool} {q o : List Int} {m : Nat} (h : Ends emR ch d q o m) : ∃ o', Ends emS ch d q o' m ∧ (∀ x, x ∈ o ↔ x ∈ o') := by
  induction h with
  | nil d => exact ⟨[], .nil d, fun _ => Iff.rfl⟩
  | skip hf _ ih =>
    obtain ⟨o', h1, h2⟩ := ih
    exact ⟨o', .skip hf h1, h2⟩
  | @fin d f q o m hf hn _ ih =>
    obtain ⟨o', h1, h2⟩ := ih
    refine ⟨_, .fin hf hn h1, fun x => ?_⟩
    rw [List.mem_append, List.mem_append, h2 x]
    simp [emR, emS]
  | @more d f j q o m hf hn _ ih =>
    obtain ⟨o', h1, h2⟩ := ih
    refine ⟨_, .more hf hn h1, fun x => ?_⟩
    rw [List.mem_append, List.mem_append, h2 x]
    have hm := ends_mem h1 f (by simp) hf
    simp only [emR, emS, List.mem_singleton, reduceCtorEq, if_false, List.not_mem_nil, false_or]
    constructor
    · rintro (rfl | h)
      · exact hm
      · exact h
    · exact .inr

theorem rs_su {s : Sh} {l ks : List Int} (h : rsB s l ks = true) : suB s l ks = true ∧ baB s l = true ∧ ∀ x, x ∈ rsL s l ks ↔ x ∈ suL s l ks := by
  have h' := h
  unfold rsB at h
  rw [Bool.and_eq_true, Bool.and_eq_true] at h
  have hok := (inOk_of h.1.1).1
  have hoks := fun x => safe_oks (l := l) h.1.1 h.2 x
  have hsu : suB s l ks = true := by
    unfold suB
    rw [h.1.1, h.1.2, Bool.true_and, Bool.true_and, List.all_eq_true]
    exact fun x _ => hoks x
  refine ⟨hsu, ?_, ?_⟩
  · unfold baB baTo
    rw [h.1.1, Bool.true_and, List.all_eq_true]
    exact fun i _ => hoks _
  · obtain ⟨o, m, he, _⟩ := ends_all (em := emR) (gr_S hok l) emR_cnt ks (fun x _ => hoks x) (d0S s) (fun _ h => h) (fun x _ => hoks x)
    obtain ⟨o', he', hx⟩ := ends_both he
    unfold rsL suL
    rw [if_pos h', if_pos hsu, endsL_eq he, endsL_eq he']
    exact hx

theorem vf_ba {s : Sh} {l : List Int} (h : baB s l = true) {k : Int} (hk : 0 ≤ k) : vf (baL s l) k = vsS s l k := by
  have e : baL s l = baVs s l s.m.length := by unfold baL; rw [if_pos h]
  have hin : inOk s l = true := by unfold baB at h; rw [Bool.and_eq_true] at h; exact h.1
  obtain ⟨h1, h2, _⟩ := inOk_of hin
  rw [e]
  unfold vf
  rw [baVs_len]
  by_cases hlt : k < s.m.length
  · rw [if_pos hlt]
    unfold baVs
    rw [List.getD_eq_getElem?_getD, List.getElem?_map, List.getElem?_range (by omega)]
    simp only [Option.map_some, Option.getD_some]
    rw [show ((k.toNat : Nat) : Int) = k by omega]
  · rw [if_neg hlt]
    have hm : s.mdI k = false := by
      cases hx : s.mdI k
      · rfl
      · have := mdI_bd hx; omega
    rw [vsS_free h1 hm, vf_far (by omega)]

theorem rs_md {s : Sh} {l ks : List Int} : (∀ x ∈ rsL s l ks, s.mdI x = true) ∧ (rsB s l ks = false → rsL s l ks = []) := by
  constructor
  · intro x hx
    unfold rsL at hx
    split at hx
    · rename_i h
      unfold rsB at h
      rw [Bool.and_eq_true, Bool.and_eq_true] at h
      have hok := (inOk_of h.1.1).1
      obtain ⟨o, m, he, hc⟩ := ends_all (em := emR) (gr_S hok l) emR_cnt ks (fun x _ => safe_oks h.1.1 h.2 x) (d0S s) (fun _ h => h) (fun x _ => safe_oks h.1.1 h.2 x)
      rw [endsL_eq he] at hx
      exact (ends_bd hok hc).1 x hx
    · simp at hx
  · intro h
    unfold rsL
    rw [h, if_neg (by decide)]

/-- A key is tried no more often than it fetches keys, and once more. -/
theorem rs_cnt {s : Sh} {l ks : List Int} (h : rsB s l ks = true) (x : Int) : (rsL s l ks).count x ≤ (usesL ((s.tkI x).kys (vf (baL s l)))).length + 1 := by
  have hba := (rs_su h).2.1
  have h' := h
  unfold rsB at h
  rw [Bool.and_eq_true, Bool.and_eq_true] at h
  have hok := (inOk_of h.1.1).1
  have hoks := fun x => safe_oks (l := l) h.1.1 h.2 x
  obtain ⟨o, m, he, hc⟩ := ends_all (em := emR) (gr_S hok l) emR_cnt ks (fun x _ => hoks x) (d0S s) (fun _ h => h) (fun x _ => hoks x)
  unfold rsL
  rw [if_pos h', endsL_eq he]
  have hk : (s.tkI x).kys (vf (baL s l)) = chS s l x := by
    refine ((pre_keys (fun k => decide (0 ≤ k)) (vsS s l) (vf (baL s l)) (fun k hk => vf_ba hba (of_decide_eq_true hk)) (s.tkI x) (tkI_fit hok _)).2 (fun k hk => ?_)).2
    exact decide_eq_true ((T.kys_bd (vsS s l) (s.tkI x) (tkI_fit hok _)).1 k hk).1
  rw [hk]
  refine Nat.le_trans (hc x) ?_
  unfold cnt
  split
  · omega
  · have := List.length_filter_le (fun y => !d0S s y) (usesL (chS s l x))
    omega
end Go.Proofs.Ytochgmbeomfkpaa
/- an order by suspending fits, and its keys are those of the topological order: plain words, no program -/
namespace Go.Proofs.Ytochgmbeomfkpaa
open Go.RowKit

section
variable {ch : Int → List Int} {d : Int → Bool} {q o : List Int} {m : Nat}
theorem ends_ahead (h : Ends emS ch d q o m) : ∀ (i : Nat) (hi : i < o.length), d o[i] = false ∧ o[i] ∉ o.take i ∧ ∀ c ∈ ch o[i], d c = true ∨ c ∈ o.take i := by
  induction h with
  | nil d => intro i hi; simp at hi
  | skip _ _ ih => exact ih
  | @fin d f q o m hf hn _ ih =>
    have e : emS f none ++ o = f :: o := rfl
    simp only [e]
    intro i hi
    cases i with
    | zero => exact ⟨hf, by simp, fun c hc => .inl (nxt_none hn c hc)⟩
    | succ i =>
      obtain ⟨h1, h2, h3⟩ := ih i (by simpa using hi)
      unfold upd at h1 h3
      rw [Bool.or_eq_false_iff, decide_eq_false_iff_not] at h1
      simp only [List.getElem_cons_succ, List.take_succ_cons]
      refine ⟨h1.1, ?_, fun c hc => ?_⟩
      · rw [List.mem_cons]; exact fun hx => hx.elim h1.2 h2
      · rcases h3 c hc with h4 | h4
        · rw [Bool.or_eq_true, decide_eq_true_eq] at h4
          rcases h4 with h4 | h4
          · exact .inl h4
          · exact .inr (by rw [h4]; simp)
        · exact .inr (List.mem_cons.2 (.inr h4))
  | more _ _ _ ih => exact ih
theorem ends_in {N : Int → Prop} (h : Ends emS ch d q o m) : (∀ k ∈ q, d k = false → N k) → (∀ k, N k → ∀ j ∈ ch k, d j = false → N j) → ∀ x ∈ o, N x := by
  induction h with
  | nil d => intro _ _ x hx; simp at hx
  | skip _ _ ih => intro hq hs; exact ih (fun k hk => hq k (List.mem_cons.2 (.inr hk))) hs
  | @fin d f q o m hf hn _ ih =>
    have hu : ∀ k, upd d f k = false → d k = false := fun k hk => by
      unfold upd at hk
      rw [Bool.or_eq_false_iff] at hk
      exact hk.1
    intro hq hs x hx
    rcases List.mem_append.1 hx with hx | hx
    · have : x = f := by simpa [emS] using hx
      rw [this]
      exact hq f (by simp) hf
    · exact ih (fun k hk hd => hq k (List.mem_cons.2 (.inr hk)) (hu k hd)) (fun k hk j hj hd => hs k hk j hj (hu j hd)) x hx
  | @more d f j q o m hf hn _ ih =>
    intro hq hs x hx
    obtain ⟨h1, h2⟩ := nxt_some hn
    refine ih (fun k hk hd => ?_) hs x hx
    rcases List.mem_cons.1 hk with rfl | hk
    · exact hs f (hq f (by simp) hf) _ h1 hd
    · exact hq k hk hd
end
theorem su_ends {s : Sh} {l ks : List Int} (h : suB s l ks = true) : inOk s l = true ∧ hkB s ks = true ∧ s.ok = true ∧ ∃ m, Ends emS (chS s l) (d0S s) ks (suL s l ks) m := by
  have h' := h
  unfold suB at h
  rw [Bool.and_eq_true, Bool.and_eq_true, List.all_eq_true] at h
  have hok := (inOk_of h.1.1).1
  obtain ⟨o, m, he, _⟩ := ends_all (em := emS) (gr_S hok l) emS_cnt ks (fun x hx => h.2 x hx) (d0S s) (fun _ h => h) (fun x hx => (gr_S hok l).d0ok x hx)
  refine ⟨h.1.1, h.1.2, hok, m, ?_⟩
  unfold suL
  rw [if_pos h', endsL_eq he]
  exact he
theorem su_fits {s : Sh} {l ks : List Int} (h : suB s l ks = true) (hba : baB s l = true) : ofB s l (suL s l ks) = true := by
  obtain ⟨_, _, hok, m, he⟩ := su_ends h
  unfold ofB
  rw [hba, Bool.true_and]
  unfold ofTo
  rw [List.all_eq_true]
  intro i hi
  have hi2 : i < (suL s l ks).length := List.mem_range.1 hi
  obtain ⟨h1, h2, h3⟩ := ends_ahead he i hi2
  rw [List.getD_eq_getElem?_getD, List.getElem?_eq_getElem hi2, Option.getD_some]
  obtain ⟨x, hx⟩ : ∃ x, x = (suL s l ks)[i] := ⟨_, rfl⟩
  rw [← hx] at h1 h2 h3 ⊢
  have hm : s.mdI x = true := by unfold d0S at h1; simpa using h1
  have hk : (s.tkI x).kys (vf (baL s l)) = chS s l x := by
    refine ((pre_keys (fun k => decide (0 ≤ k)) (vsS s l) (vf (baL s l)) (fun k hk => vf_ba hba (of_decide_eq_true hk)) (s.tkI x) (tkI_fit hok _)).2 (fun k hk => ?_)).2
    exact decide_eq_true ((T.kys_bd (vsS s l) (s.tkI x) (tkI_fit hok _)).1 k hk).1
  unfold ofOne
  rw [hm, Bool.true_and, Bool.and_eq_true, List.all_eq_true, hk]
  refine ⟨by rw [decide_eq_false h2]; rfl, fun u hu => decide_eq_true ?_⟩
  rw [List.mem_filter, usesL_mem] at hu
  rcases h3 u hu.1 with h4 | h4
  · unfold d0S at h4
    rw [hu.2] at h4; cases h4
  · exact h4

theorem least_nat {P : Nat → Prop} : ∀ n, P n → ∃ k, P k ∧ ∀ j, P j → k ≤ j := by
  intro n
  induction n using Nat.strongRecOn with
  | ind n ih =>
    intro hn
    by_cases hx : ∃ j, j < n ∧ P j
    · obtain ⟨j, hj, hp⟩ := hx
      exact ih j hj hp
    · exact ⟨n, hn, fun j hj => Nat.le_of_not_lt fun hl => hx ⟨j, hl, hj⟩⟩
theorem topo_ex {N : Int → Bool} {ch : Int → List Int} {n : Nat} (hN : ∀ k, N k = true → 0 ≤ k ∧ k < n) : ∀ (f : Nat) (out : List Int), TopS N ch out → n - out.length ≤ f → ∃ r, Topo N ch out r := by
  intro f
  induction f with
  | zero =>
    intro out ho hf
    refine ⟨out, .stop fun k => ?_⟩
    cases hk : frT N ch out k
    · rfl
    · have := (ho.next hk).len hN
      simp at this
      omega
  | succ f ih =>
    intro out ho hf
    by_cases hs : ∀ k, frT N ch out k = false
    · exact ⟨out, .stop hs⟩
    · obtain ⟨k0, hk0⟩ : ∃ k, frT N ch out k = true := by
        refine Classical.byContradiction fun hx => hs fun k => ?_
        cases hk : frT N ch out k
        · rfl
        · exact absurd ⟨k, hk⟩ hx
      have hb := hN k0 (frT_iff.1 hk0).1
      obtain ⟨k, hk, hm⟩ := least_nat (P := fun i => frT N ch out (i : Int) = true) k0.toNat (by rw [show ((k0.toNat : Nat) : Int) = k0 by omega]; exact hk0)
      have h2 := ho.next hk
      have h3 := h2.len hN
      obtain ⟨r, hr⟩ := ih _ h2 (by simp at h3 ⊢; omega)
      refine ⟨r, .step hk (fun j hj => ?_) hr⟩
      have hjb := hN j (frT_iff.1 hj).1
      have := hm j.toNat (by rw [show ((j.toNat : Nat) : Int) = j by omega]; exact hj)
      omega
theorem Topo.none {N : Int → Bool} {ch : Int → List Int} {out res : List Int} (h : Topo N ch out res) : ∀ k, frT N ch res k = false := by
  induction h with
  | stop hs => exact hs
  | step _ _ _ ih => exact ih
/-- Of a safe sheet all made keys on the ways are in the order. -/
theorem tp_all {s : Sh} {ks : List Int} (ht : tpB s ks = true) : ∀ x, Rch s.mdI (chL s) ks x → x ∈ tpL s ks := by
  have h1 : (safeB s && (hkB s ks && s.ok)) = true := ht
  rw [Bool.and_eq_true] at h1
  have hsf := h1.1
  unfold safeB at hsf
  rw [Bool.and_eq_true, List.all_eq_true] at hsf
  have hx : tpB s ks = true ∧ ∃ r, Topo (nT s ks) (chL s) [] r := ⟨ht, topo_ex (fun _ hk => nT_bd hk) _ [] TopS.start (Nat.le_refl _)⟩
  have he : tpL s ks = hx.2.choose := by unfold tpL; rw [dif_pos hx]
  have hT := hx.2.choose_spec
  rw [← he] at hT
  have hn := hT.none
  have key : ∀ (r : Nat) (k : Int), rkG (chM s) (fun k => !s.mdI k) k ≤ r → Rch s.mdI (chL s) ks k → k ∈ tpL s ks := by
    intro r
    induction r with
    | zero =>
      intro k hr hk
      refine Classical.byContradiction fun hno => ?_
      have hm := hk.made
      have hb := mdI_bd hm
      have hf : frT (nT s ks) (chL s) (tpL s ks) k = true := frT_iff.2 ⟨nT_iff.2 hk, hno, fun c hc => by
        have hok : okM s k = true := by have := hsf.2 k.toNat (List.mem_range.2 (by omega)); rwa [show ((k.toNat : Nat) : Int) = k by omega] at this
        have hcm : c ∈ (mayI (s.tk k.toNat) 10).filter s.mdI := by rw [chL_may, show ((k.toNat : Nat) : Int) = k by omega]; exact hc
        have h2 := ((gr_M s).down k hok (by simp only [hm]; rfl) c (List.mem_filter.1 hcm).1).2
        omega⟩
      rw [hn k] at hf; cases hf
    | succ r ih =>
      intro k hr hk
      refine Classical.byContradiction fun hno => ?_
      have hm := hk.made
      have hb := mdI_bd hm
      have hf : frT (nT s ks) (chL s) (tpL s ks) k = true := frT_iff.2 ⟨nT_iff.2 hk, hno, fun c hc => by
        have hok : okM s k = true := by have := hsf.2 k.toNat (List.mem_range.2 (by omega)); rwa [show ((k.toNat : Nat) : Int) = k by omega] at this
        have hcm : c ∈ (mayI (s.tk k.toNat) 10).filter s.mdI := by rw [chL_may, show ((k.toNat : Nat) : Int) = k by omega]; exact hc
        have h2 := ((gr_M s).down k hok (by simp only [hm]; rfl) c (List.mem_filter.1 hcm).1).2
        exact ih c (by omega) (.step hk hc (List.mem_filter.1 hcm).2)⟩
      rw [hn k] at hf; cases hf
  exact fun x hx => key _ x (Nat.le_refl _) hx
theorem su_tp {s : Sh} {l ks : List Int} (h : suB s l ks = true) (ht : tpB s ks = true) : ∀ x ∈ suL s l ks, x ∈ tpL s ks := by
  obtain ⟨_, _, hok, m, he⟩ := su_ends h
  have hd : ∀ k, d0S s k = false → s.mdI k = true := fun k hk => by unfold d0S at hk; simpa using hk
  refine fun x hx => tp_all ht x (ends_in (N := fun k => Rch s.mdI (chL s) ks k) he (fun k hk hd0 => .base hk (hd k hd0)) (fun k hk j hj hd0 => ?_) x hx)
  exact .step hk (uses_chL hok (vsS s l) hk.made (List.mem_filter.2 ⟨usesL_mem.2 hj, hd j hd0⟩)) (hd j hd0)
end Go.Proofs.Ytochgmbeomfkpaa
/- the walk of laws.FnOrderSuspend -/
namespace Go.Proofs.Ytochgmbeomfkpaa
open Go.RowKit

set_option maxRecDepth 100000 in
set_option maxHeartbeats 4000000 in
theorem walk_orderSuspend (w : World) (a : Option Addr) (n c : Nat) (h : CodeAt w a n c) :
    Calls Try.prog 5 #[.slice a n c] w fun e w' => e = .returned (.bool true) ∧ Below w.heap.size w w' := by
  have hn := h.1
  have hc := h.2.1
  have HC := Lib.hid h
  clear h
  by_cases hl : 1048576 < n
  · go_enter Try.func5, Try.ntmps5
    go_wp2_with fail
    go_ret
    exact ⟨rfl, Below.refl _ _⟩
  go_enter Try.func5, Try.ntmps5
  go_wp2_with fail
  refine (drawSuspend_any _ a n c HC.out).mono ?_
  rintro e w1 ⟨s, av, cv, a', c', l, ai, ci, ks, ak, ck, rfl, hat, hin, hik, htl, hml, hnl, hll, hkl, hb⟩
  have hsz1 := hb.size
  have HT1 := Lib.hid (hat.alloc (.cells #[.slice av s.m.length cv, .slice a' s.t.length c'] 32))
  have HI1 := Lib.hid (hin.alloc (.cells #[.slice av s.m.length cv, .slice a' s.t.length c'] 32))
  have HQ1 := Lib.hid (hik.alloc (.cells #[.slice av s.m.length cv, .slice a' s.t.length c'] 32))
  have HB1 := Lib.hid (Blk.new w1 32 #[.slice av s.m.length cv, .slice a' s.t.length c'])
  have HX1 := Lib.hid (hb.alloc hsz1 (.cells #[.slice av s.m.length cv, .slice a' s.t.length c'] 32))
  obtain ⟨U, hU⟩ : ∃ U, U = suL s l ks := ⟨_, rfl⟩
  obtain ⟨z, hz⟩ : ∃ z, z = suB s l ks := ⟨_, rfl⟩
  obtain ⟨V, hV⟩ : ∃ V, V = baL s l := ⟨_, rfl⟩
  obtain ⟨y, hy⟩ : ∃ y, y = baB s l := ⟨_, rfl⟩
  obtain ⟨T, hT⟩ : ∃ T, T = tpL s ks := ⟨_, rfl⟩
  obtain ⟨t, ht⟩ : ∃ t, t = tpB s ks := ⟨_, rfl⟩
  have hUb := suL_bd s l ks
  have hVb := baL_bd s l
  have hTb := tpL_bd s ks
  rw [← hU] at hUb
  rw [← hV] at hVb
  rw [← hT] at hTb
  have HUS := Lib.hid (show ∀ w e w', OrP (suB s l ks) (suL s l ks) w e w' → Below w.heap.size w w' ∧ ∃ (a : Option Addr) (c : Nat), e = .returned (.tuple #[.slice a U.length c, .bool z]) ∧ IntsAt w' (fun b => w.heap.size ≤ b) U a c from by
    rintro w e w' ⟨hb, v, rfl, hr⟩
    rw [← hU] at hr
    obtain ⟨a, c, rfl, hi⟩ := hr.at (fun x hx => by have := hUb.1 x hx; unfold i64ok; omega)
    exact ⟨hb, a, c, by rw [hz], hi⟩)
  have HUV := Lib.hid (show ∀ w e w', BaPost s l w e w' → Below w.heap.size w w' ∧ ∃ (a : Option Addr) (c : Nat), e = .returned (.tuple #[.slice a V.length c, .bool y]) ∧ IntsAt w' (fun b => w.heap.size ≤ b) V a c from by
    rintro w e w' ⟨hb, v, rfl, hr⟩
    rw [← hV] at hr
    obtain ⟨a, c, rfl, hi⟩ := hr.at (fun x hx => by have := hVb.1 x hx; unfold i64ok; omega)
    exact ⟨hb, a, c, by rw [hy], hi⟩)
  have HUT := Lib.hid (show ∀ w e w', OrP (tpB s ks) (tpL s ks) w e w' → Below w.heap.size w w' ∧ ∃ (a : Option Addr) (c : Nat), e = .returned (.tuple #[.slice a T.length c, .bool t]) ∧ IntsAt w' (fun b => w.heap.size ≤ b) T a c from by
    rintro w e w' ⟨hb, v, rfl, hr⟩
    rw [← hT] at hr
    obtain ⟨a, c, rfl, hi⟩ := hr.at (fun x hx => by have := hTb.1 x hx; unfold i64ok; omega)
    exact ⟨hb, a, c, by rw [ht], hi⟩)
  have HFT := Lib.hid (show z = true → y = true → ofB s l U = true from fun h1 h2 => by
    rw [hU]; exact su_fits (by rw [← hz]; exact h1) (by rw [← hy]; exact h2))
  have HMT := Lib.hid (show z = true → t = true → ∀ x ∈ U, x ∈ T from fun h1 h2 => by
    rw [hU, hT]; exact su_tp (by rw [← hz]; exact h1) (by rw [← ht]; exact h2))
  have hUl : U.length ≤ 160 := hUb.2
  have hTl : T.length ≤ 160 := hTb.2
  clear hat hin hik hb HC htl hU hz hV hy hT ht hUb hVb hTb
  go_wp2_with fail
  refine (implSuspend_any s l ks _ _ _ _ av cv a' c' ai ci ak ck HT1.out HI1.out HQ1.out).mono ?_
  intro e w2 hp
  obtain ⟨hb, a2, c2, rfl, hi2⟩ := HUS.out _ _ _ hp
  have hsz2 := hb.size
  simp only [World.size_alloc] at hsz2
  have HT2 := Lib.hid (HT1.out.below hb)
  have HI2 := Lib.hid (HI1.out.below hb)
  have HQ2 := Lib.hid (HQ1.out.below hb)
  have HB2 := Lib.hid (HB1.out.below hb (by simp))
  have HX2 := Lib.hid (HX1.out.trans (hb.mono (by simp; omega)))
  have HL2 := Lib.hid hi2
  clear hb hp hi2 HT1 HI1 HQ1 HB1 HX1
  obtain ⟨x0, x1, f0, f1⟩ := HB2.out.two
  go_wp2_with fail
  refine (specSuspend_any s l ks _ _ _ _ av cv a' c' ai ci ak ck HT2.out (by omega) HI2.out HQ2.out (by omega)).mono ?_
  intro e w3 hp
  obtain ⟨hb, a3, c3, rfl, hi3⟩ := HUS.out _ _ _ hp
  have hsz3 := hb.size
  have HT3 := Lib.hid (HT2.out.below hb)
  have HI3 := Lib.hid (HI2.out.below hb)
  have HQ3 := Lib.hid (HQ2.out.below hb)
  have HB3 := Lib.hid (HB2.out.below hb (by omega))
  have HX3 := Lib.hid (HX2.out.trans (hb.mono (by omega)))
  have HL3 := Lib.hid (HL2.out.below hb)
  have HM3 := Lib.hid hi3
  clear hb hp hi3 HT2 HI2 HQ2 HB2 HX2 HL2 x0 x1 f0 f1
  have hnb : (z != z) = false := by simp
  go_wp2_with fail
  refine (brInts_any _ _ _ U a2 a3 c2 c3 HL3.out HM3.out).mono ?_
  rintro e w4 ⟨rfl, hb⟩
  have hsz4 := hb.size
  have HT4 := Lib.hid (HT3.out.below hb)
  have HI4 := Lib.hid (HI3.out.below hb)
  have HQ4 := Lib.hid (HQ3.out.below hb)
  have HB4 := Lib.hid (HB3.out.below hb (by omega))
  have HX4 := Lib.hid (HX3.out.trans (hb.mono (by omega)))
  have HL4 := Lib.hid (HL3.out.below hb)
  clear hb HT3 HI3 HQ3 HB3 HX3 HL3 HM3
  obtain ⟨x0, x1, f0, f1⟩ := HB4.out.two
  go_wp2_with fail
  clear hnb
  refine (implAll_any s l _ _ _ av cv a' c' ai ci HT4.out HI4.out).mono ?_
  intro e w5 hp
  obtain ⟨hb, a5, c5, rfl, _⟩ := HUV.out _ _ _ hp
  have hsz5 := hb.size
  have HT5 := Lib.hid (HT4.out.below hb)
  have HI5 := Lib.hid (HI4.out.below hb)
  have HQ5 := Lib.hid (HQ4.out.below hb)
  have HB5 := Lib.hid (HB4.out.below hb (by omega))
  have HX5 := Lib.hid (HX4.out.trans (hb.mono (by omega)))
  have HL5 := Lib.hid (HL4.out.below hb)
  clear hb hp HT4 HI4 HQ4 HB4 HX4 HL4 x0 x1 f0 f1
  obtain ⟨x0, x1, f0, f1⟩ := HB5.out.two
  go_wp2_with fail
  refine (implTopo_any s ks _ _ _ av cv a' c' ak ck HT5.out HQ5.out).mono ?_
  intro e w6 hp
  obtain ⟨hb, a6, c6, rfl, hi6⟩ := HUT.out _ _ _ hp
  have hsz6 := hb.size
  have HT6 := Lib.hid (HT5.out.below hb)
  have HI6 := Lib.hid (HI5.out.below hb)
  have HB6 := Lib.hid (HB5.out.below hb (by omega))
  have HX6 := Lib.hid (HX5.out.trans (hb.mono (by omega)))
  have HL6 := Lib.hid (HL5.out.below hb)
  have HM6 := Lib.hid hi6
  clear hb hp hi6 HT5 HI5 HQ5 HB5 HX5 HL5 x0 x1 f0 f1 HUS HUV HUT
  obtain ⟨x0, x1, f0, f1⟩ := HB6.out.two
  cases hz : z
  · go_wp2_with fail
    go_ret
    exact ⟨rfl, HX6.out⟩
  · have HF1 := Lib.hid (HFT.out hz)
    have HM1 := Lib.hid (HMT.out hz)
    have HFC := Lib.hid (fun (h : y = true) => (show Calls Try.prog 18 #[.agg #[.slice av s.m.length cv, .slice a' s.t.length c'], .slice ai l.length ci, .slice a2 U.length c2] w6 fun e w' => e = .returned (.bool true) ∧ Below w6.heap.size w6 w' from by
      have := implFits_any s l U w6 _ _ _ av cv a' c' ai ci a2 c2 HT6.out HI6.out HL6.out
      rw [HF1.out h] at this
      exact this))
    have HAC := Lib.hid (fun (h : t = true) (w7 : World) (hb : Below w6.heap.size w6 w7) => brAll_any w7 _ _ U T a2 a6 c2 c6 (HL6.out.below hb) (HM6.out.below hb) (HM1.out h))
    subst hz
    cases hy : y
    · cases ht : t
      · subst hy ht
        go_wp2_with fail
        go_ret
        exact ⟨rfl, HX6.out⟩
      · have HA := Lib.hid (HAC.out ht w6 (Below.refl _ _))
        subst hy ht
        go_wp2_with fail
        refine HA.out.mono ?_
        rintro e w8 ⟨rfl, rfl⟩
        go_wp2_with fail
        go_ret
        exact ⟨rfl, HX6.out⟩
    · have HF := Lib.hid (HFC.out hy)
      cases ht : t
      · subst hy ht
        go_wp2_with fail
        refine HF.out.mono ?_
        rintro e w7 ⟨rfl, hb7⟩
        have HX7 := Lib.hid (HX6.out.trans (hb7.mono (by omega)))
        clear hb7
        go_wp2_with fail
        go_ret
        exact ⟨rfl, HX7.out⟩
      · have HA := Lib.hid (HAC.out ht)
        subst hy ht
        go_wp2_with fail
        refine HF.out.mono ?_
        rintro e w7 ⟨rfl, hb7⟩
        have HX7 := Lib.hid (HX6.out.trans (hb7.mono (by omega)))
        have HA7 := Lib.hid (HA.out w7 hb7)
        clear hb7
        go_wp2_with fail
        refine HA7.out.mono ?_
        rintro e w8 ⟨rfl, rfl⟩
        go_wp2_with fail
        go_ret
        exact ⟨rfl, HX7.out⟩
end Go.Proofs.Ytochgmbeomfkpaa
