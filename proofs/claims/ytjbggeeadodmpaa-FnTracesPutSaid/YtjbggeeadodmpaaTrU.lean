/- impl.TracesPut -/
import Derived.Test.YtjbggeeadodmpaaTrM2
import Derived.Test.YtjbggeeadodmpaaTrJ
import Derived.Test.YtjbggeeadodmpaaTr2
namespace Go.Proofs.Ytjbggeeadodmpaa
open Go.RowKit

/-- append of rows of traces, be they none -/
theorem step_append_trs {ops : Array Oper} {o : Oper} {a : Act} {w : World} {K : Act → World → Prop} {Q : Exit → Act → World → Prop} {E : Prop}
    (hg : o.guard = none) (s x : Operand) (hop : o.op = Op.call { callee := Callee.builtin Builtin.append, args := #[s, x], argTypes := #[31, 31] })
    (base : Nat) (v : Value) (n : Nat) (xs : List Value) (hs : a.eval s = v) (hown : w.ownsRow base 25 3 v n xs) (ax : Option Addr) (m cx : Nat) (news : List Value) (hn : news.length = m * 3) (hx : a.eval x = .slice ax m cx)
    (hsrc : m = 0 ∨ ∃ ad, ax = some ad ∧ ∀ j u, news[j]? = some u → w.cell? (ad.add j) = some u) (h1c : ∀ u ∈ news, u.oneCell' = true)
    (hl : n + m ≤ 1000000) (hbase : base ≤ w.heap.size)
    (hK : ∀ v' w', w'.ownsRow base 25 3 v' (n + m) (xs ++ news) → w.grownBy w' v.ownBlock → (∀ b, v'.ownBlock = some b → v.ownBlock = some b ∨ w.heap.size ≤ b) → K (a.put o.dst v') w') :
    if Region.wanted o (yielded ops a.tmps) = true then Oper.wp Try.prog o a w K Q else E := by
  have hw : Region.wanted o (yielded ops a.tmps) = true := by simp [Region.wanted, hg]
  rw [if_pos hw]
  obtain ⟨i, hi, hz0, hz1, hz2⟩ := info_parts infoTrace
  have hml : maxLen = 9223372036854775807 := rfl
  have key : ∃ v' w', (Builtin.append_ #[31, 31] o.type #[v, .slice ax m cx]).run Try.prog w = .ok v' w' ∧ w'.ownsRow base 25 3 v' (n + m) (xs ++ news) ∧ w.grownBy w' v.ownBlock ∧ (∀ b, v'.ownBlock = some b → v.ownBlock = some b ∨ w.heap.size ≤ b) := by
    rcases Nat.eq_zero_or_pos m with rfl | hp
    · obtain rfl : news = [] := List.length_eq_zero_iff.1 (by omega)
      have hgr : w.grownBy w v.ownBlock := ⟨rfl, rfl, rfl, Nat.le_refl _, fun _ _ _ => rfl⟩
      obtain ⟨ao, cap, rfl⟩ := own_shape hown
      have hat := (ownsRow_at hown).1
      exact ⟨_, w, run_append_zero w 31 o.type 25 i Try.underlying31 hi ao n cap ax cx hat, by rw [List.append_nil]; exact hown, hgr, fun b hb => .inl hb⟩
    · rcases hsrc with h0 | ⟨ad, rfl, hc⟩
      · omega
      · exact run_append_row (P := Try.prog) w base 31 o.type 25 i (.agg #[.int .i64 0, .slice none 0 0, .int .i64 0]) 3 40 Try.underlying31 hi hz0 hz1 hz2 rfl (by decide) v n xs hown ad m cx news hn hc h1c (by rw [hml]; omega) (by omega) hbase
  obtain ⟨v', w', hrun, r1, r2, r3⟩ := key
  unfold Oper.wp
  simp [execOp, hop, resolve, invoke, builtin, hs, hx, hrun, Result.andThen]
  exact hK v' w' r1 r2 r3

def ptB (l : List Tr) (t : Tr) : Bool := trsOk l && t.ok
def ptO (l : List Tr) (t : Tr) : List Tr := if ptB l t = true then trPut l t else []
def TrsPost (r : List Tr) (b : Bool) (w : World) (e : Ending) (w' : World) : Prop := Below w.heap.size w w' ∧ ∃ v us, e = .returned (.tuple #[v, .bool b]) ∧ TrsOw w' w.heap.size v (r.map Tr.raw) us
theorem trs_nil (w : World) (base : Nat) : TrsOw w base (.slice none 0 0) [] [] := ⟨World.ownsRow_nil _ _ _ _, trivial, (fun _ h => by cases h), List.Pairwise.nil⟩
theorem trsOk_all' {l : List Tr} (h : trsOk l = true) : l.length ≤ 60 ∧ ∀ t ∈ l, t.ok = true := by
  unfold trsOk at h
  rw [Bool.and_eq_true] at h
  exact ⟨of_decide_eq_true h.1, fun t ht => (List.all_eq_true.1 h.2) t ht⟩
theorem TrsOw.grown {w w' : World} {base : Nat} {v : Value} {l : List Rt} {us : List Value} (h : TrsOw w base v l us) (t : Tr) (au : Option Addr) (cu : Nat) (hu : FRow w base (.slice au t.u.length cu) t.u.length (pcl t.u)) (hfr : ∀ b, (Value.slice au t.u.length cu).ownBlock = some b → ¬ trD v us b)
    (v' : Value) (hr : w'.ownsRow base 25 3 v' (l.length + 1) (tcl l us ++ [.int .i64 t.k, .slice au t.u.length cu, .int .i64 t.v])) (hg : w.grownBy w' v.ownBlock) (hn : ∀ b, v'.ownBlock = some b → v.ownBlock = some b ∨ w.heap.size ≤ b) :
    TrsOw w' base v' (l ++ [t.raw]) (us ++ [.slice au t.u.length cu]) := by
  refine TrsOw.push h t.raw _ ?_ hfr hr hg hn
  show FRow _ _ _ ((pcl t.u).length / 2) (pcl t.u)
  rw [pcl_len, Nat.mul_div_cancel _ (by decide)]
  exact hu
theorem row3 (w : World) (x y z : Value) : ∀ j u, [x, y, z][j]? = some u → (w.alloc (.cells #[x, y, z] 25)).cell? ((⟨w.heap.size, 0, none⟩ : Addr).add j) = some u := by
  intro j u hj
  have e : (⟨w.heap.size, 0, none⟩ : Addr).add j = ⟨w.heap.size, j, none⟩ := by unfold Addr.add; split <;> simp_all
  rw [e, World.cell?_alloc_new, ← hj]
  simp
section
variable {w3 w4 w5 w6 : World} {v4 v6 : Value} {L : List Tr} {us : List Value} {t : Tr} {au : Option Addr} {cu : Nat}
theorem putEnd (ho : TrsOw w4 w3.heap.size v4 (L.map Tr.raw) us) (hb4 : Below w3.heap.size w3 w4) (hb5 : Below w4.heap.size w4 w5) (hfr : FRow w5 w4.heap.size (.slice au t.u.length cu) t.u.length (pcl t.u))
    (hr : w6.ownsRow w3.heap.size 25 3 v6 ((L.map Tr.raw).length + 1) (tcl (L.map Tr.raw) us ++ [.int .i64 t.k, .slice au t.u.length cu, .int .i64 t.v])) (hgr : (w5.alloc (.cells #[.int .i64 t.k, .slice au t.u.length cu, .int .i64 t.v] 25)).grownBy w6 v4.ownBlock)
    (hn : ∀ b, v6.ownBlock = some b → v4.ownBlock = some b ∨ (w5.alloc (.cells #[.int .i64 t.k, .slice au t.u.length cu, .int .i64 t.v] 25)).heap.size ≤ b) : TrsOw w6 w3.heap.size v6 (L.map Tr.raw ++ [t].map Tr.raw) (us ++ [.slice au t.u.length cu]) := by
  have h4 := hb4.size
  refine TrsOw.grown ((ho.below hb5).alloc (.cells #[.int .i64 t.k, .slice au t.u.length cu, .int .i64 t.v] 25)) t au cu (ownsRow_low (World.ownsRow.alloc hfr _) h4) (fun b hb hd => ?_) v6 hr hgr hn
  have h1 := (World.ownsRow.lt hfr b hb).1
  have h2 := (ho.lt hd).2
  omega
theorem putBelow (ho : TrsOw w4 w3.heap.size v4 (L.map Tr.raw) us) (hb4 : Below w3.heap.size w3 w4) (hb5 : Below w4.heap.size w4 w5)
    (hgr : (w5.alloc (.cells #[.int .i64 t.k, .slice au t.u.length cu, .int .i64 t.v] 25)).grownBy w6 v4.ownBlock) : Below w3.heap.size w3 w6 := by
  have h4 := hb4.size
  have h5 := hb5.size
  exact ((hb4.trans (hb5.mono h4)).alloc (by omega) _).trans (below_grown hgr (by simp; omega) (own_ge ho.row))
end
set_option maxRecDepth 100000 in
set_option maxHeartbeats 4000000 in
theorem implPut_any (w : World) (S S' : Nat → Prop) (l : List Tr) (t : Tr) (a a' : Option Addr) (c c' : Nat) (h : TrsAt w S l a c) (h' : PrsAt w S' t.u a' c') :
    Calls Try.prog 19 #[.slice a l.length c, .agg #[.int .i64 t.k, .slice a' t.u.length c', .int .i64 t.v]] w (TrsPost (ptO l t) (ptB l t) w) := by
  have hlen : l.length ≤ 9223372036854775807 := RwAt.len h
  have K0 := Lib.hid (Kt.start (ty := 25) h')
  have H := Lib.hid (h.alloc (.cells #[.int .i64 t.k, .slice a' t.u.length c', .int .i64 t.v] 25))
  have hsz := K0.out.size
  clear h h'
  obtain ⟨W, hW⟩ : ∃ W, W = w.alloc (.cells #[.int .i64 t.k, .slice a' t.u.length c', .int .i64 t.v] 25) := ⟨_, rfl⟩
  have HWW := Lib.hid hW
  rw [← hW] at K0 H hsz
  have HSZ := Lib.hid hsz
  clear hW
  cases ht : trsOk l
  · have HT := Lib.hid ht
    have hr2 : ptB l t = false := by unfold ptB; rw [ht]; rfl
    have hr : ptO l t = [] := by unfold ptO; rw [hr2]; rfl
    rw [hr, hr2]
    clear hr hr2 ht
    go_enter Try.func19, Try.ntmps19
    go_wp2_with fail
    rw [← HWW.out]
    refine (tracesOk_any _ S l a c H.out).mono ?_
    rintro e w1 ⟨rfl, hb⟩
    rw [HT.out]
    have K1 := Lib.hid (K0.out.step hb)
    clear hb
    go_wp2_with fail
    exact bodyPost_ret (v := .tuple #[.slice none 0 0, .bool false]) (by simp [results, Try.results19, go_sem]) rfl ⟨K1.out.done, _, [], rfl, trs_nil _ _⟩
  cases hv : t.ok
  · have HT := Lib.hid ht
    have HV := Lib.hid hv
    have hr2 : ptB l t = false := by unfold ptB; rw [ht, hv]; rfl
    have hr : ptO l t = [] := by unfold ptO; rw [hr2]; rfl
    rw [hr, hr2]
    clear hr hr2 ht hv
    go_enter Try.func19, Try.ntmps19
    go_wp2_with fail
    rw [← HWW.out]
    refine (tracesOk_any _ S l a c H.out).mono ?_
    rintro e w1 ⟨rfl, hb⟩
    rw [HT.out]
    have K1 := Lib.hid (K0.out.step hb)
    clear hb
    obtain ⟨x0, x1, x2⟩ := K1.out.box
    go_wp2_with fail
    refine (traceOk_any _ S' t a' c' K1.out.2).mono ?_
    rw [HV.out]
    rintro e w2 ⟨rfl, hb⟩
    have K2 := Lib.hid (K1.out.step hb)
    clear hb x0 x1 x2
    go_wp2_with fail
    exact bodyPost_ret (v := .tuple #[.slice none 0 0, .bool false]) (by simp [results, Try.results19, go_sem]) rfl ⟨K2.out.done, _, [], rfl, trs_nil _ _⟩
  · have HT := Lib.hid ht
    have HV := Lib.hid hv
    have HOK := Lib.hid (trsOk_all' ht)
    have hr2 : ptB l t = true := by unfold ptB; rw [ht, hv]; rfl
    have hr : ptO l t = trPut l t := by unfold ptO; rw [hr2]; rfl
    rw [hr, hr2]
    have HUL := Lib.hid (Tr.ok_len hv)
    have HLU := Lib.hid (show ∀ x ∈ l, x.u.length ≤ 1000 from fun x hx => by have := Tr.ok_len (HOK.out.2 x hx); omega)
    have hl60 := HOK.out.1
    clear hr hr2 ht hv
    go_enter Try.func19, Try.ntmps19
    go_wp2_with fail
    rw [← HWW.out]
    refine (tracesOk_any _ S l a c H.out).mono ?_
    rintro e w1 ⟨rfl, hb⟩
    rw [HT.out]
    have K1 := Lib.hid (K0.out.step hb)
    have H1 := Lib.hid (H.out.below hb)
    clear hb
    obtain ⟨x0, x1, x2⟩ := K1.out.box
    go_wp2_with fail
    refine (traceOk_any _ S' t a' c' K1.out.2).mono ?_
    rw [HV.out]
    rintro e w2 ⟨rfl, hb⟩
    have K2 := Lib.hid (K1.out.step hb)
    have H2 := Lib.hid (H1.out.below hb)
    clear hb x0 x1 x2
    obtain ⟨x0, x1, x2⟩ := K2.out.box
    go_wp2_with fail
    refine (hasTrace_any _ S S' l t a a' c c' H2.out K2.out.2).mono ?_
    rintro e w3 ⟨rfl, hb⟩
    have K3 := Lib.hid (K2.out.step hb)
    have H3 := Lib.hid (H2.out.below hb)
    clear hb x0 x1 x2
    cases hh : l.any fun x => trEq x t
    · by_cases h60 : l.length = 60
      · obtain ⟨x, r, rfl⟩ : ∃ x r, l = x :: r := by
          cases l with
          | nil => simp at h60
          | cons x r => exact ⟨x, r, rfl⟩
        have hrl : r.length = 59 := by simpa using h60
        have HRE := Lib.hid (show trPut (x :: r) t = r ++ [t] by unfold trPut; rw [hh, if_neg (by simp), if_pos h60]; rfl)
        have hc1 : ¬ c = 1 := by have := H3.out.1; simp only [List.length_cons] at this; omega
        have t0 : (((x :: r).length : Int) == (60 : Int)) = true := by simp [hrl]
        have hin : (1 : Nat) ≤ (x :: r).length := by simp
        have hxc : (x :: r).length ≤ c := H3.out.1
        have hcm : c ≤ 9223372036854775807 := H3.out.2.1
        obtain ⟨b0, o0, rfl, htl⟩ := RwAt.tail H3.out
        have HTL := Lib.hid (show TrsAt w3 S r (some ⟨b0, o0 + 3, none⟩) (c - 1) from htl)
        have HLR := Lib.hid (show ∀ y ∈ r, y.u.length ≤ 1000 from fun y hy => HLU.out y (List.mem_cons_of_mem _ hy))
        have HLN := Lib.hid (show (r.map Tr.raw).length + 1 ≤ 1000000 by simp; omega)
        have hcall := copyTraces_any w3.drew S r (some ⟨b0, o0 + 3, none⟩) (c - 1) HTL.out.drew (by omega) HLR.out
        rw [hrl] at hcall
        have HC := Lib.hid hcall
        clear h60 hh htl hcall
        obtain ⟨x0, x1, x2⟩ := K3.out.drew.box
        go_wp2_with fail
        go_region_held3 (fun w' => w'.cell? ⟨w.heap.size, 0, none⟩ = some (.int .i64 t.k) ∧ w'.cell? ⟨w.heap.size, 1, none⟩ = some (.slice a' t.u.length c') ∧ w'.cell? ⟨w.heap.size, 2, none⟩ = some (.int .i64 t.v)) (first | exact ⟨x0, x1, x2⟩ | exact ⟨y0, y1, y2⟩ | exact ⟨z0, z1, z2⟩ | exact ⟨u0, u1, u2⟩ | go_keep) (first | (go_at_call 48; refine HC.out.mono ?_; rintro e w4 ⟨v4, us, rfl, ho, hb4⟩; obtain ⟨y0, y1, y2⟩ := (K3.out.drew.step hb4).box) | (go_at_call 43; refine (copyTrace_any _ S' t a' c' (K3.out.drew.step hb4).2 (by have := HUL.out; omega)).mono ?_; rintro e w5 ⟨u5, rfl, hfr, hb5⟩; obtain ⟨au, cu, rfl⟩ := own_shape' hfr; obtain ⟨z0, z1, z2⟩ := ((K3.out.drew.step hb4).step hb5).box) | (refine step_append_trs rfl (.tmp 25) (.tmp 28) rfl w3.drew.heap.size v4 (r.map Tr.raw).length (tcl (r.map Tr.raw) us) rfl ((ho.below hb5).alloc (.cells #[.int .i64 t.k, .slice au t.u.length cu, .int .i64 t.v] 25)).row (some ⟨w5.heap.size, 0, none⟩) 1 1 [.int .i64 t.k, .slice au t.u.length cu, .int .i64 t.v] rfl rfl (.inr ⟨_, rfl, row3 w5 _ _ _⟩) (by simp [Value.oneCell']) HLN.out (by have := hb4.size; have := hb5.size; simp at *; omega) ?_; intro v6 w6 hr hgr hn; obtain ⟨u0, u1, u2⟩ := (K3.out.drew.step (putBelow (t := t) ho hb4 hb5 hgr)).box))
        all_goals
          have HP := Lib.hid (putEnd ho hb4 hb5 hfr hr hgr hn)
          have HE := Lib.hid (K3.out.done.drew.trans (putBelow (t := t) ho hb4 hb5 hgr |>.mono (by have := K3.out.drew.size; omega)))
          have HZ := Lib.hid (show w.heap.size ≤ w3.drew.heap.size by have := K3.out.drew.size; omega)
          clear hr hgr hn ho hb4 hb5 hfr x0 x1 x2
          go_wp2_with fail
          exact bodyPost_ret (v := .tuple #[v6, .bool true]) (by simp [results, Try.results19, go_sem]) rfl ⟨HE.out, _, _, rfl, by rw [HRE.out, List.map_append]; exact HP.out.low HZ.out⟩
      · have HRE := Lib.hid (show trPut l t = l ++ [t] by unfold trPut; rw [hh, if_neg (by simp), if_neg h60])
        have t0 : ((l.length : Int) == (60 : Int)) = false := by simp; omega
        have HLN := Lib.hid (show (l.map Tr.raw).length + 1 ≤ 1000000 by simp; omega)
        have HC := Lib.hid (copyTraces_any w3.drew S l a c H3.out.drew (by omega) HLU.out)
        clear h60 hh
        obtain ⟨x0, x1, x2⟩ := K3.out.drew.box
        go_wp2_with fail
        go_region_held3 (fun w' => w'.cell? ⟨w.heap.size, 0, none⟩ = some (.int .i64 t.k) ∧ w'.cell? ⟨w.heap.size, 1, none⟩ = some (.slice a' t.u.length c') ∧ w'.cell? ⟨w.heap.size, 2, none⟩ = some (.int .i64 t.v)) (first | exact ⟨x0, x1, x2⟩ | exact ⟨y0, y1, y2⟩ | exact ⟨z0, z1, z2⟩ | exact ⟨u0, u1, u2⟩ | go_keep) (first | (go_at_call 48; refine HC.out.mono ?_; rintro e w4 ⟨v4, us, rfl, ho, hb4⟩; obtain ⟨y0, y1, y2⟩ := (K3.out.drew.step hb4).box) | (go_at_call 43; refine (copyTrace_any _ S' t a' c' (K3.out.drew.step hb4).2 (by have := HUL.out; omega)).mono ?_; rintro e w5 ⟨u5, rfl, hfr, hb5⟩; obtain ⟨au, cu, rfl⟩ := own_shape' hfr; obtain ⟨z0, z1, z2⟩ := ((K3.out.drew.step hb4).step hb5).box) | (refine step_append_trs rfl (.tmp 25) (.tmp 28) rfl w3.drew.heap.size v4 (l.map Tr.raw).length (tcl (l.map Tr.raw) us) rfl ((ho.below hb5).alloc (.cells #[.int .i64 t.k, .slice au t.u.length cu, .int .i64 t.v] 25)).row (some ⟨w5.heap.size, 0, none⟩) 1 1 [.int .i64 t.k, .slice au t.u.length cu, .int .i64 t.v] rfl rfl (.inr ⟨_, rfl, row3 w5 _ _ _⟩) (by simp [Value.oneCell']) HLN.out (by have := hb4.size; have := hb5.size; simp at *; omega) ?_; intro v6 w6 hr hgr hn; obtain ⟨u0, u1, u2⟩ := (K3.out.drew.step (putBelow (t := t) ho hb4 hb5 hgr)).box))
        all_goals
          have HP := Lib.hid (putEnd ho hb4 hb5 hfr hr hgr hn)
          have HE := Lib.hid (K3.out.done.drew.trans (putBelow (t := t) ho hb4 hb5 hgr |>.mono (by have := K3.out.drew.size; omega)))
          have HZ := Lib.hid (show w.heap.size ≤ w3.drew.heap.size by have := K3.out.drew.size; omega)
          clear hr hgr hn ho hb4 hb5 hfr x0 x1 x2
          go_wp2_with fail
          exact bodyPost_ret (v := .tuple #[v6, .bool true]) (by simp [results, Try.results19, go_sem]) rfl ⟨HE.out, _, _, rfl, by rw [HRE.out, List.map_append]; exact HP.out.low HZ.out⟩
    · have HRE := Lib.hid (show trPut l t = l by unfold trPut; rw [hh]; rfl)
      clear hh
      go_wp2_with fail
      refine (copyTraces_any _ S l a c H3.out (by omega) HLU.out).mono ?_
      rintro e w4 ⟨v, us, rfl, ho, hb⟩
      have HO := Lib.hid ho
      have K4 := Lib.hid (K3.out.step hb)
      have hs3 := K3.out.size
      clear hb ho
      go_wp2_with fail
      exact bodyPost_ret (v := .tuple #[v, .bool true]) (by simp [results, Try.results19, go_sem]) rfl ⟨K4.out.done, _, us, rfl, by rw [HRE.out]; exact HO.out.low (by omega)⟩
end Go.Proofs.Ytjbggeeadodmpaa
