/- l91Traces: traces drawn off a code; DrawTracesOk -/
import Derived.Test.YtjbggeeadodmpaaTraceD
import Derived.Test.YtjbggeeadodmpaaTrM2
namespace Go.Proofs.Ytjbggeeadodmpaa
open Go.RowKit

/-- What a drawn trace is like. -/
def drT (r : Tr) : Prop := (0 ≤ r.k ∧ r.k ≤ 9) ∧ (-1 ≤ r.v ∧ r.v ≤ 97) ∧ (∀ q ∈ r.u, (0 ≤ q.1 ∧ q.1 ≤ 10) ∧ (0 ≤ q.2 ∧ q.2 ≤ 96)) ∧ r.u.length ≤ 16
theorem drT.fine {r : Tr} (h : drT r) : i64ok r.k ∧ i64ok r.v ∧ ∀ q ∈ r.u, i64ok q.1 ∧ i64ok q.2 := by
  obtain ⟨h1, h2, h3, _⟩ := h
  refine ⟨by unfold i64ok; omega, by unfold i64ok; omega, fun q hq => ?_⟩
  have := h3 q hq
  exact ⟨by unfold i64ok; omega, by unfold i64ok; omega⟩
theorem fr_of_only {g : Nat} {w w' : World} (h : Only g w w') : Fr (fun b => b = g) w w' := ⟨h.os, h.tape, h.output, h.size, fun b hb hn => h.block b hb (fun e => hn (by injection e))⟩
theorem below_only {g : Nat} {w w1 w2 : World} (h : Below w.heap.size w w1) (ho : Only g w1 w2) (hg : w.heap.size ≤ g) : Below w.heap.size w w2 :=
  h.trans ⟨ho.os, ho.tape, ho.output, ho.size, fun k hk => ho.block k (Nat.lt_of_lt_of_le hk h.size) (by intro e; injection e; omega)⟩
theorem TrsOw.only {w w' : World} {g base : Nat} {v : Value} {l : List Rt} {us : List Value} (h : TrsOw w base v l us) (ho : Only g w w') (hg : g < base) : TrsOw w' base v l us :=
  h.fr (fr_of_only ho) (fun b hb e => by have := (h.lt hb).1; omega)
theorem trsOw_new (w : World) : TrsOw (w.alloc (.cells #[] 25)) w.heap.size (.slice (some ⟨w.heap.size, 0, none⟩) 0 0) [] [] := trs_empty w 0 #[] rfl (by decide)

/-- Traces were drawn. -/
def TracesD (g p : Nat) (w : World) (e : Ending) (w' : World) : Prop :=
  ∃ (ts : List Tr) (v : Value) (us : List Value) (p' : Nat), e = .returned v ∧ TrsOw w' w.heap.size v (ts.map Tr.raw) us ∧ (∀ t ∈ ts, drT t) ∧ ts.length ≤ 5 ∧ p ≤ p' ∧ p' ≤ p + 351 ∧ RdAt w' g p' ∧ Only g w w'

set_option maxRecDepth 100000 in
set_option maxHeartbeats 2000000 in
theorem traces_any (w : World) (g p : Nat) (hr : RdAt w g p) (hp : p ≤ 970000) : Calls Try.prog 40 #[.pointer (some ⟨g, 0, none⟩)] w (TracesD g p w) := by
  obtain ⟨i0, hi, hz0, hz1, hz2⟩ := info_parts infoTrace
  have HI := Lib.hid (And.intro hi (And.intro hz0 (And.intro hz1 hz2)))
  have HML := Lib.hid (show maxLen = 9223372036854775807 from rfl)
  have hgl := hr.lt
  have HR0 := Lib.hid (hr.alloc (.cells #[] 25))
  have HT0 := Lib.hid (trsOw_new w)
  have HO0 := Lib.hid ((Only.refl g w).alloc (.cells #[] 25))
  clear hi hz0 hz1 hz2 hr
  go_enter Try.func40, Try.ntmps40
  go_wp2_with fail
  refine (pick_any _ g p 6 HR0.out (by omega) (by omega) (by omega)).mono ?_
  rintro e w1 ⟨r, rfl, h0, h1, hrd, ho⟩
  have hr6 := h1 (by omega)
  have HT1 := Lib.hid (HT0.out.only ho hgl)
  have HR1 := Lib.hid hrd
  have HO1 := Lib.hid (HO0.out.trans ho)
  clear h1 hrd ho HR0 HT0 HO0
  go_wp2_with fail
  go_loopw [3, 4] (fun v k wr => ∃ (ts : List Tr) (us : List Value) (q p' : Nat), k = .int .i64 q ∧ ts.length + q ≤ 5 ∧ p + 1 ≤ p' ∧ p' + 70 * q ≤ p + 351 ∧ TrsOw wr w.heap.size v (ts.map Tr.raw) us ∧ (∀ t ∈ ts, drT t) ∧ RdAt wr g p' ∧ Only g w wr) (fun _ k _ => (intOf k).toNat)
  case atStart => exact ⟨[], [], r.toNat, p + 1, congrArg (Value.int .i64) (by omega), by simp; omega, by omega, by omega, HT1.out, by simp, HR1.out, HO1.out⟩
  case round =>
    obtain ⟨ts, us, q, p', rfl, hq, hp0, hp1, ht, hd, hrd, ho⟩ := hrel
    have HT := Lib.hid ht
    have HD := Lib.hid hd
    have HRD := Lib.hid hrd
    have HO := Lib.hid ho
    have hws := ho.size
    clear ht hd hrd ho
    by_cases hq0 : q = 0
    · subst hq0
      go_wp2_with fail
      go_ret
      exact ⟨ts, _, us, p', rfl, HT.out, HD.out, by omega, by omega, by omega, HRD.out, HO.out⟩
    · have hqp : (0 : Int) < (q : Int) := by omega
      obtain ⟨ls, hls⟩ : ∃ ls, ls = ts.map Tr.raw := ⟨_, rfl⟩
      have hll : ls.length ≤ 5 := by rw [hls, List.length_map]; omega
      have HLS := Lib.hid hls
      have HLL := Lib.hid hll
      rw [← hls] at HT
      clear hls hll
      go_wp2_with fail
      refine (trace_any wr g p' HRD.out (by omega)).mono ?_
      rintro e w2 ⟨t, v1, p2, rfl, hfr, hk, hv, hu, hul, hp2, hp3, hrd, ho⟩
      obtain ⟨au, cu, rfl⟩ := own_shape' hfr
      have HDT := Lib.hid (show drT t from ⟨hk, hv, hu, hul⟩)
      have ht1 := HT.out.only ho hgl
      obtain ⟨av, cv, hvv⟩ := own_shape' ht1.row
      subst hvv
      have HT2 := Lib.hid ht1
      have HF2 := Lib.hid hfr
      have HR2 := Lib.hid hrd
      have HO2 := Lib.hid (HO.out.trans ho)
      have hs2 := ho.size
      have HFN := Lib.hid (fun b (hb1 : (Value.slice au t.u.length cu).ownBlock = some b) (hd : trD (.slice av ls.length cv) us b) => show False from by
        have h1 := (World.ownsRow.lt hfr b hb1).1
        have h2 := (HT.out.lt hd).2
        omega)
      clear hfr hk hv hu hul hrd ho ht1 HRD HO HT
      go_wp2_with (at_builtin; refine wpList_append_row _ rfl (.tmp 12) (.tmp 15) 31 rfl w.heap.size 25 i0 (.agg #[.int .i64 0, .slice none 0 0, .int .i64 0]) 3 40 Try.underlying31 HI.out.1 HI.out.2.1 HI.out.2.2.1 HI.out.2.2.2 rfl (by decide) _ ls.length (tcl ls us) rfl (World.ownsRow.alloc HT2.out.row _) ⟨w2.heap.size, 0, none⟩ 1 1 [.int .i64 t.k, .slice au t.u.length cu, .int .i64 t.v] rfl rfl ?c1 ?c2 (by decide) ?c3 ?c4 ?c5 ?_)
      case c1 =>
        intro j u hj
        have e : (⟨w2.heap.size, 0, none⟩ : Addr).add j = ⟨w2.heap.size, j, none⟩ := by unfold Addr.add; split <;> simp_all
        rw [e, World.cell?_alloc_new, ← hj]
        simp
      case c2 => simp [Value.oneCell']
      case c3 => rw [HML.out]; have := HLL.out; omega
      case c4 => have := HLL.out; omega
      case c5 => first | omega | (simp; omega)
      intro v' w3 hown hgr hnew
      have hpush : TrsOw w3 w.heap.size v' ((ts ++ [t]).map Tr.raw) (us ++ [.slice au t.u.length cu]) := by
        rw [List.map_append, ← HLS.out]
        refine TrsOw.push (w := w2.alloc (.cells #[.int .i64 t.k, .slice au t.u.length cu, .int .i64 t.v] 25)) (HT2.out.alloc _) t.raw (.slice au t.u.length cu) ?_ (fun b hb hd => HFN.out b hb hd) hown hgr (fun b hb => (hnew b hb).imp id (fun h => by rw [World.size_alloc]; exact h))
        show FRow _ _ _ ((pcl t.u).length / 2) (pcl t.u)
        rw [pcl_len, Nat.mul_div_cancel _ (by decide)]
        exact ownsRow_low (World.ownsRow.alloc HF2.out _) (by first | omega | (simp; omega))
      have hge := fun b (hb : (Value.slice av ls.length cv).ownBlock = some b) => (HT2.out.lt (.inl hb)).1
      have HPU := Lib.hid hpush
      have HR3 := Lib.hid ((HR2.out.alloc (.cells #[.int .i64 t.k, .slice au t.u.length cu, .int .i64 t.v] 25)).grown hgr (fun k hk => by have := hge k hk; omega))
      have HO3 := Lib.hid (only_grown (HO2.out.alloc (.cells #[.int .i64 t.k, .slice au t.u.length cu, .int .i64 t.v] 25)) hgr (fun k hk => by have := hge k hk; omega))
      have HD3 := Lib.hid (show ∀ x ∈ ts ++ [t], drT x from fun x hx => by
        rcases List.mem_append.1 hx with h | h
        · exact HD.out x h
        · rw [List.mem_singleton] at h; rw [h]; exact HDT.out)
      clear hown hgr hnew hpush hge HT2 HF2 HR2 HO2 HFN HD HDT
      go_wp2_with fail
      obtain ⟨q', rfl⟩ : ∃ q', q = q' + 1 := ⟨q - 1, by omega⟩
      go_roundw
      case rel => exact ⟨ts ++ [t], us ++ [.slice au t.u.length cu], q', p2, by go_num, by simp; omega, by omega, by omega, HPU.out, HD3.out, HR3.out, HO3.out⟩
      case measure => simp [intOf]

/-- Traces were drawn off a code. -/
def TracesC (w : World) (e : Ending) (w' : World) : Prop :=
  ∃ (ts : List Tr) (v : Value) (us : List Value), e = .returned v ∧ TrsOw w' w.heap.size v (ts.map Tr.raw) us ∧ (∀ t ∈ ts, drT t) ∧ ts.length ≤ 5 ∧ Below w.heap.size w w'

set_option maxHeartbeats 1000000 in
theorem drawTracesOk_any (w : World) (a : Option Addr) (n c : Nat) (h : CodeAt w a n c) : Calls Try.prog 11 #[.slice a n c] w (TracesC w) := by
  have HC := Lib.hid h
  clear h
  go_enter Try.func11, Try.ntmps11
  go_wp2_with fail
  refine (open_any w a n c HC.out).mono ?_
  rintro e w1 ⟨rfl, hrd, hb⟩
  have HR := Lib.hid hrd
  have HB := Lib.hid hb
  clear hrd hb
  go_wp2_with fail
  refine (traces_any w1 w.heap.size 0 HR.out (by omega)).mono ?_
  rintro e w2 ⟨ts, v, us, p', rfl, ht, hd, hl, hp0, hp1, hrd, ho⟩
  have HX := Lib.hid (show TracesC w (.returned v) w2 from ⟨ts, v, us, rfl, ht.low HB.out.size, hd, hl, below_only HB.out ho (Nat.le_refl _)⟩)
  clear ht hd hl hp0 hp1 hrd ho
  go_wp2_with fail
  go_ret
  exact HX.out
end Go.Proofs.Ytjbggeeadodmpaa
