/- For every code the law FnOrderFits answers true: OrderFits answers as its model, and an order that fits does so without its last key. No condition. -/
/- several texts in one (made by bundle.py): UsesI, MapB, OrdP, SafeA, OrdE, TryS, RsA, Bnds, FitP, FitS, RsS, KoS, KoM, SafeI, OrdI, SuS, DrawFit, FitI, LawDFit, OrderFits -/
import Derived.Test.YtklmpagpkeffjaaOrderFitsB0
import Derived.Maps.OwnOps
import Derived.Maps.OwnSet
import Derived.Test.YtklmpagpkeffjaaReck
import Derived.WalkSpells
import Derived.Test.YtklmpagpkeffjaaSafeS
import Derived.Test.YtklmpagpkeffjaaKeyM
import Derived.Test.YtklmpagpkeffjaaMarkI
import Derived.Test.YtklmpagpkeffjaaAllS
import Derived.Deep.RegionWith
import Derived.BigQuiet
import Derived.Deep.RegionLaw
import Derived.StillTailTactics
import Derived.Test.YtklmpagpkeffjaaRows
import Derived.ProofKit
/- slices.Contains at numbers; impl.TaskUses -/
namespace Go.Proofs.Ytklmpagpkeffjaa
open Go.RowKit

def IndexPost (l : List Int) (n : Int) (w : World) (e : Ending) (w' : World) : Prop := ∃ r : Int, e = .returned (.int .i64 r) ∧ decide (0 ≤ r) = decide (n ∈ l) ∧ w = w'

theorem index_any (w : World) (S : Nat → Prop) (l : List Int) (a : Option Addr) (c : Nat) (n : Int) (h : IntsAt w S l a c) :
    Calls Try.prog 113 #[.slice a l.length c, .int .i64 n] w (IndexPost l n w) := by
  have hlen : l.length ≤ 9223372036854775807 := by have := h.1; have := h.2.1; omega
  have H := Lib.hid h
  clear h
  go_enter Try.func113, Try.ntmps113
  go_wp2_with fail
  go_loop [8] (fun i => ∃ k : Nat, k ≤ l.length ∧ i = .int .i64 k ∧ ¬ n ∈ l.take k) (fun i => l.length - (intOf i).toNat)
  case atStart => exact ⟨0, by omega, rfl, by simp⟩
  case round =>
    obtain ⟨k, hk, rfl, hq⟩ := hrel
    have HQ := Lib.hid hq
    clear hq
    by_cases hlt : k < l.length
    · obtain ⟨b, o, rfl, hbl, _, hc⟩ := H.out.get (Below.refl _ _) hlt
      have HM := Lib.hid (mem_take_succ hlt n)
      have HE := Lib.hid (List.getElem_mem hlt)
      obtain ⟨v, hv⟩ : ∃ v, v = l[k] := ⟨_, rfl⟩
      rw [← hv] at hc
      have HVV := Lib.hid hv
      clear hv
      by_cases hvn : n = v
      · have hd : (n == v) = true := by simpa using hvn
        have hrt : n ∈ l := by rw [hvn, HVV.out]; exact HE.out
        have HRT := Lib.hid hrt
        clear hrt hvn
        go_wp2_with fail
        go_ret
        exact ⟨k, rfl, by rw [decide_eq_true HRT.out, decide_eq_true (by omega)], rfl⟩
      · have hd : (n == v) = false := by simpa using hvn
        have HVN := Lib.hid hvn
        clear hvn
        go_wp2_with fail
        go_round
        case rel => exact ⟨k + 1, by omega, by go_num, fun h => by
          rcases HM.out.1 h with h | h
          · exact HQ.out h
          · exact HVN.out (by rw [HVV.out, h])⟩
        case measure => simp [intOf]; omega
    · have hrf : ¬ n ∈ l := by
        have := HQ.out
        rwa [List.take_of_length_le (by omega)] at this
      have HRF := Lib.hid hrf
      clear hrf
      go_wp2_with fail
      go_ret
      exact ⟨-1, rfl, by rw [decide_eq_false HRF.out]; rfl, rfl⟩

theorem contains_any (w : World) (S : Nat → Prop) (l : List Int) (a : Option Addr) (c : Nat) (n : Int) (h : IntsAt w S l a c) :
    Calls Try.prog 77 #[.slice a l.length c, .int .i64 n] w fun e w' => e = .returned (.bool (decide (n ∈ l))) ∧ w = w' := by
  have H := Lib.hid h
  obtain ⟨r, hr⟩ : ∃ r, r = decide (n ∈ l) := ⟨_, rfl⟩
  have HR := Lib.hid hr
  rw [← hr]
  clear h hr
  go_enter Try.func77, Try.ntmps77
  go_wp2_with fail
  refine (index_any w S l a c n H.out).mono ?_
  rintro e w' ⟨q, rfl, hq, rfl⟩
  have HQ := Lib.hid hq
  clear hq
  go_wp2_with fail
  go_ret
  exact ⟨ret_bool (by rw [HR.out, ← HQ.out]), rfl⟩

set_option maxHeartbeats 2000000 in
theorem implUses_any (t : T) (lv : List Int) (w : World) (S S' : Nat → Prop) (a a' : Option Addr) (c c' : Nat) (hat : AtS w S t.ps a c) (hl : IntsAt w S' lv a' c') :
    Calls Try.prog 29 #[.agg #[.int .i64 t.k, .int .i64 t.n, .slice a t.ps.length c], .slice a' lv.length c'] w (UsPost t lv w) := by
  have K0 := Lib.hid (Kp.start (ty := 42) hat.lim)
  have L0 := Lib.hid (hl.alloc (.cells #[.int .i64 t.k, .int .i64 t.n, .slice a t.ps.length c] 42))
  clear hat hl
  cases hv : (t.ok && vok lv)
  · have HV := Lib.hid hv
    have hx : UsPost t lv w = fun e w' => Below w.heap.size w w' ∧ ∃ v, e = .returned (.tuple #[v, .bool false]) ∧ NumRow w' w.heap.size v [] := by unfold UsPost; rw [hv, if_neg (by decide)]
    have HX := Lib.hid hx
    clear hv hx
    go_enter Try.func29, Try.ntmps29
    go_wp2_with fail
    refine (implFetches_any t lv _ _ _ a a' c c' K0.out.2 L0.out).mono ?_
    rintro e w1 ⟨hb, hm⟩
    rw [HV.out, if_neg (by decide)] at hm
    obtain ⟨vo, rfl, _⟩ := hm
    have K1 := Lib.hid (K0.out.step hb)
    clear hb K0
    go_wp2_with fail
    go_ret2
    rw [HX.out]
    exact ⟨K1.out.done, _, rfl, World.ownsRow_nil _ _ _ _⟩
  · have HV := Lib.hid hv
    have hx : UsPost t lv w = fun e w' => Below w.heap.size w w' ∧ ∃ v, e = .returned (.tuple #[v, .bool true]) ∧ NumRow w' w.heap.size v (usesL (t.kys (vf lv))) := by unfold UsPost; rw [hv, if_pos rfl]
    have HX := Lib.hid hx
    have hkb := kys_ok hv
    obtain ⟨ks, hks⟩ : ∃ ks, ks = t.kys (vf lv) := ⟨_, rfl⟩
    rw [← hks] at hkb HX
    have HKS := Lib.hid hks
    have hkl := hkb.2
    have HKB := Lib.hid hkb.1
    obtain ⟨iN, ni, nz0, nz1, nz2⟩ := info_parts infoInt
    have HIN := Lib.hid (And.intro ni (And.intro nz0 (And.intro nz1 nz2)))
    have hml : maxLen = 9223372036854775807 := rfl
    have HML := Lib.hid hml
    clear hv hx hkb hks ni nz0 nz1 nz2 hml
    go_enter Try.func29, Try.ntmps29
    go_wp2_with fail
    refine (implFetches_any t lv _ _ _ a a' c c' K0.out.2 L0.out).mono ?_
    rintro e w1 ⟨hb, hm⟩
    rw [HV.out, if_pos rfl, ← HKS.out] at hm
    obtain ⟨vo, rfl, hrow⟩ := hm
    obtain ⟨a3, c3, rfl, hfe⟩ := hrow.at
    have K1 := Lib.hid (K0.out.step hb).done
    have HF := Lib.hid hfe
    have hs1 := K1.out.size
    clear hb K0 L0 hrow hfe
    go_wp2_with fail
    go_loopw [8, 21] (fun v i wr => ∃ k : Nat, k ≤ ks.length ∧ i = .int .i64 k ∧ NumRow wr w.heap.size v (usesL (ks.take k)) ∧ Below w1.heap.size w1 wr ∧ (∀ b, v.ownBlock = some b → w1.heap.size ≤ b)) (fun _ i _ => ks.length - (intOf i).toNat)
    case atStart => exact ⟨0, by omega, rfl, World.ownsRow_nil _ _ _ _, Below.refl _ _, by simp [Value.ownBlock]⟩
    case round =>
      obtain ⟨k, hk, rfl, hn, hb, hge⟩ := hrel
      have HB := Lib.hid hb
      have HN := Lib.hid hn
      have HGE := Lib.hid hge
      have hwr := hb.size
      clear hb hge
      by_cases hlt : k < ks.length
      · obtain ⟨b, o, rfl, hbl, _, e0, e1⟩ := HF.out.get HB.out hlt
        obtain ⟨acc, hacc⟩ : ∃ acc, acc = usesL (ks.take k) := ⟨_, rfl⟩
        have hal : acc.length ≤ 100 := by rw [hacc]; have := usesL_len (ks.take k); simp at this; omega
        obtain ⟨a1, c1, hv1, hia⟩ := hn.at (fun x hx => by
          have := HKB.out x (List.mem_of_mem_take (usesL_mem.1 hx))
          unfold i64ok; omega)
        rw [← hacc] at hv1 hia HN
        subst hv1
        have HSN := Lib.hid (show usesL (ks.take (k + 1)) = ustep acc ks[k] by rw [usesL_snoc hlt, hacc])
        obtain ⟨key, hkey⟩ : ∃ key, key = ks[k] := ⟨_, rfl⟩
        obtain ⟨u, hu⟩ : ∃ u, u = vf lv ks[k] := ⟨_, rfl⟩
        rw [← hkey] at e0 HSN
        rw [← hu] at e1
        have HIA := Lib.hid (hia.alloc (.cells #[.int .i64 key, .int .i64 u] 96))
        have HN1 := Lib.hid (World.ownsRow.alloc HN.out (.cells #[.int .i64 key, .int .i64 u] 96))
        have HB1 := Lib.hid (HB.out.alloc hwr (.cells #[.int .i64 key, .int .i64 u] 96))
        clear hacc hn hia hkey hu
        by_cases hin : key ∈ acc
        · have hu : usesL (ks.take (k + 1)) = acc := by rw [HSN.out]; unfold ustep; rw [if_pos hin]
          have HU := Lib.hid hu
          have hd : decide (key ∈ acc) = true := decide_eq_true hin
          have HD := Lib.hid hd
          clear hu hd hin
          go_wp2_with fail
          refine (contains_any _ _ acc a1 c1 key HIA.out).mono ?_
          rintro e w' ⟨rfl, rfl⟩
          rw [HD.out]
          go_wp2_with fail
          go_roundw
          case rel => exact ⟨k + 1, by omega, by go_num, by rw [HU.out]; exact HN1.out, HB1.out, HGE.out⟩
          case measure => simp [intOf]; omega
        · have hu : usesL (ks.take (k + 1)) = acc ++ [key] := by rw [HSN.out]; unfold ustep; rw [if_neg hin]
          have HU := Lib.hid hu
          have hd : decide (key ∈ acc) = false := decide_eq_false hin
          have HD := Lib.hid hd
          clear hu hd hin
          go_wp2_with fail
          refine (contains_any _ _ acc a1 c1 key HIA.out).mono ?_
          rintro e w' ⟨rfl, rfl⟩
          rw [HD.out]
          have hz : (wr.alloc (.cells #[.int .i64 key, .int .i64 u] 96)).heap.size = wr.heap.size + 1 := by simp
          have HZ := Lib.hid hz
          clear hz
          go_wp2_with (at_builtin; refine wpList_append_row _ rfl (.tmp 30) (.tmp 33) 30 rfl w.heap.size 3 iN (.int .i64 0) 1 8 Try.underlying30 HIN.out.1 HIN.out.2.1 HIN.out.2.2.1 HIN.out.2.2.2 rfl (by decide) _ acc.length (acc.map (Value.int .i64)) rfl (World.ownsRow.alloc HN1.out _) ⟨wr.heap.size + 1, 0, none⟩ 1 1 [.int .i64 key] rfl rfl ?d1 ?d2 (by decide) ?d3 ?d4 ?d5 ?_)
          case d1 => have h := news1 (wr.alloc (.cells #[.int .i64 key, .int .i64 u] 96)) 3 (.int .i64 key); rw [World.size_alloc] at h; exact h
          case d2 => simp [Value.oneCell']
          case d3 => rw [HML.out]; omega
          case d4 => omega
          case d5 => simp; omega
          intro v2 w2 hown hgr hnew
          have hN2 : NumRow w2 w.heap.size v2 (acc ++ [key]) := by
            unfold NumRow
            rw [List.map_append, show (acc ++ [key]).length = acc.length + 1 by simp]
            exact hown
          have hB2 : Below w1.heap.size w1 w2 := (HB1.out.alloc (by simp; omega) _).trans (below_grown hgr (by simp; omega) HGE.out)
          have hG2 : ∀ b, v2.ownBlock = some b → w1.heap.size ≤ b := fun b hb => by
            rcases hnew b hb with h | h
            · exact HGE.out b h
            · omega
          have H2 := Lib.hid (And.intro hN2 (And.intro hB2 hG2))
          clear hown hgr hnew hN2 hB2 hG2
          go_wp2_with fail
          go_roundw
          case rel => exact ⟨k + 1, by omega, by go_num, by rw [HU.out]; exact H2.out.1, H2.out.2.1, H2.out.2.2⟩
          case measure => simp [intOf]; omega
      · have hq : ks.take k = ks := List.take_of_length_le (by omega)
        rw [hq] at HN
        clear hq hn
        go_wp2_with fail
        go_ret2
        rw [HX.out]
        exact ⟨K1.out.trans (HB.out.mono hs1), _, rfl, HN.out⟩
end Go.Proofs.Ytklmpagpkeffjaa

/- a map of the call's own, from numbers to bools: what is looked up, what is put -/
namespace Go.Proofs.Ytklmpagpkeffjaa
open Go.RowKit

theorem keyedInt : Go.Maps.Keyed Try.prog 3 := Go.Maps.int_keyed Try.underlying3
theorem zeroBool (w : World) : (zeroValue 4).run Try.prog w = .ok (.bool false) w := by kernel_rfl

theorem plainElem_bool_inv {H : Type} {e : TypeId} (he : Try.prog.underlying e = some .bool) {v : Value} {z : DataW H × List MemPlace} (h : plainElem Try.prog e v = some z) : ∃ x, v = .bool x ∧ z = (.lit (.bool x), []) := by
  unfold plainElem at h
  rw [he] at h
  cases v with
  | bool x => simp at h; exact ⟨x, rfl, h.symm⟩
  | _ => simp at h

/-- Block b is a map of at most n entries: at the key x the bool f x. -/
def MapB (w : World) (b n : Nat) (f : Int → Bool) : Prop :=
  ∃ D : DataW Unit, w.ownsMap Try.prog 3 (plainElem Try.prog 4) b n D ∧ ∀ x : Int, i64ok x → D.atKey (.int .i64 x) (.lit (.bool false)) = .lit (.bool (f x))

theorem MapB.made (w : World) : MapB (w.alloc (.map #[] 0)) w.heap.size 0 (fun _ => false) :=
  ⟨.map [], World.ownsMap_made _ _ _ _, fun _ _ => rfl⟩
theorem MapB.lt {w : World} {b n : Nat} {f : Int → Bool} (h : MapB w b n f) : b < w.heap.size := h.choose_spec.1.lt
theorem MapB.mono {w : World} {b n n' : Nat} {f : Int → Bool} (h : MapB w b n f) (hn : n ≤ n') : MapB w b n' f := by
  obtain ⟨D, h1, h2⟩ := h
  exact ⟨D, h1.mono hn, h2⟩
theorem MapB.fr {D : Nat → Prop} {w w' : World} {b n : Nat} {f : Int → Bool} (h : MapB w b n f) (hf : Fr D w w') (hD : ¬ D b) : MapB w' b n f := by
  obtain ⟨D', h1, h2⟩ := h
  have hlt := h1.lt
  obtain ⟨es, clock, hb, F, hs, hd⟩ := h1
  exact ⟨D', ⟨es, clock, (hf.2.2.2.2 b hlt hD).trans hb, F, hs, hd⟩, h2⟩
theorem MapB.below {w w' : World} {b n B : Nat} {f : Int → Bool} (h : MapB w b n f) (hb : Below B w w') (hB : b < B) : MapB w' b n f := by
  obtain ⟨D', h1, h2⟩ := h
  obtain ⟨es, clock, hh, F, hs, hd⟩ := h1
  exact ⟨D', ⟨es, clock, (hb.block b hB).trans hh, F, hs, hd⟩, h2⟩
theorem MapB.step {w w' : World} {b n : Nat} {f : Int → Bool} (h : MapB w b n f) (hb : Below w.heap.size w w') : MapB w' b n f := h.below hb h.lt
theorem MapB.alloc {w : World} {b n : Nat} {f : Int → Bool} (h : MapB w b n f) (o : Obj) : MapB (w.alloc o) b n f := h.step ((Below.refl _ _).alloc (Nat.le_refl _) o)
theorem MapB.congr {w : World} {b n : Nat} {f f' : Int → Bool} (h : MapB w b n f) (hf : ∀ x, i64ok x → f x = f' x) : MapB w b n f' := by
  obtain ⟨D, h1, h2⟩ := h
  exact ⟨D, h1, fun x hx => by rw [h2 x hx, hf x hx]⟩

/-- 'm[k]', an equation for the walk. -/
theorem MapB.look {w : World} {b n : Nat} {f : Int → Bool} (h : MapB w b n f) {t : TypeId} (ht : Try.prog.underlying t = some (.map 3 4)) {k : Int} (hk : i64ok k) : (Instr.lookup t (.map (some b)) (.int .i64 k) false).run Try.prog w = .ok (.bool (f k)) w := by
  obtain ⟨D, h1, h2⟩ := h
  obtain ⟨v, ps, hrun, hv⟩ := h1.lookup keyedInt ht (zeroBool w) (plainElem_bool Try.underlying4 false) (Go.Maps.keyOf_int_mk Try.underlying3 (WalkArith.wf_i64 hk))
  rw [h2 k hk] at hv
  obtain ⟨c, rfl, hc⟩ := plainElem_bool_inv Try.underlying4 hv
  simp only [Prod.mk.injEq] at hc
  have hcf : f k = c := by simpa using hc.1
  rw [hcf]
  exact hrun

/-- 'm[k]' -/
theorem wpList_lookup_mapB (w : World) {ops : Array Oper} {rest : List Oper} {o : Oper} {a : Act} {Q : Exit → Act → World → Prop}
    (hg : o.guard = none) (m x : Operand) (t : TypeId) (hop : o.op = Op.lookup t m x false) (ht : Try.prog.underlying t = some (.map 3 4)) (b n : Nat) (f : Int → Bool)
    (hm : a.eval m = .map (some b)) (h : MapB w b n f) (k : Int) (hx : a.eval x = .int .i64 k) (hk : i64ok k)
    (hK : wpList Try.prog ops Q rest (a.put o.dst (.bool (f k))) w) : wpList Try.prog ops Q (o :: rest) a w := by
  refine wpList_plain hg fun K' hK' => ?_
  obtain ⟨D, h1, h2⟩ := h
  obtain ⟨v, ps, hrun, hv⟩ := h1.lookup keyedInt ht (zeroBool w) (plainElem_bool Try.underlying4 false) (Go.Maps.keyOf_int_mk Try.underlying3 (WalkArith.wf_i64 hk))
  rw [h2 k hk] at hv
  obtain ⟨c, rfl, hc⟩ := plainElem_bool_inv Try.underlying4 hv
  simp only [Prod.mk.injEq] at hc
  have hcf : f k = c := by simpa using hc.1
  rw [hcf] at hK
  unfold Oper.wp
  simp [execOp, hop, hm, hx, hrun, Result.andThen]
  exact hK' _ _ hK

/-- 'm[k] = true' -/
theorem wpList_put_mapB (w : World) {ops : Array Oper} {rest : List Oper} {o : Oper} {a : Act} {Q : Exit → Act → World → Prop}
    (hg : o.guard = none) (m x v : Operand) (t : TypeId) (hop : o.op = Op.mapUpdate t m x v) (ht : Try.prog.underlying t = some (.map 3 4)) (b n : Nat) (f : Int → Bool)
    (hm : a.eval m = .map (some b)) (h : MapB w b n f) (hn : n < maxLen) (k : Int) (hx : a.eval x = .int .i64 k) (hk : i64ok k) (hv : a.eval v = .bool true)
    (hK : ∀ w', MapB w' b (n + 1) (fun y => f y || decide (y = k)) → Fr (fun y => y = b) w w' → wpList Try.prog ops Q rest (a.put o.dst undef) w') : wpList Try.prog ops Q (o :: rest) a w := by
  refine wpList_plain hg fun K' hK' => ?_
  obtain ⟨D, h1, h2⟩ := h
  have hd : Maps.IsMap D := h1.isMap
  obtain ⟨w', hrun, r1, r2⟩ := h1.update (t := t) keyedInt ht hn (Go.Maps.keyOf_int_mk Try.underlying3 (WalkArith.wf_i64 hk)) (plainElem_bool Try.underlying4 true)
  unfold Oper.wp
  simp [execOp, hop, hm, hx, hv, hrun, Result.andThen]
  refine hK' _ _ (hK w' ⟨_, r1, fun y hy => ?_⟩ ⟨r2.os, r2.tape, r2.output, r2.size, fun y hy hn => r2.block y hy (fun e => hn (by injection e))⟩)
  by_cases hyk : y = k
  · subst hyk
    rw [Maps.atKey_put_same hd (by exact trivial)]
    simp
  · rw [Maps.atKey_put_other (by intro e; injection e with _ e; exact hyk e), h2 y hy]
    simp only [decide_eq_false hyk, Bool.or_false]
end Go.Proofs.Ytklmpagpkeffjaa

/- impl.isMade, impl.hasKeys, impl.madeOf, impl.allBuilt; spec.l4Keys -/
namespace Go.Proofs.Ytklmpagpkeffjaa
open Go.RowKit

theorem md_cell {s : Sh} {w : World} {S : Nat → Prop} {a : Option Addr} {c : Nat} {a' : Option Addr} {c' : Nat} (h : ShAt w S s a c a' c') {k : Nat} (hk : k < s.m.length) : ∃ b o, a = some ⟨b, o, none⟩ ∧ b < w.heap.size ∧ w.cell? ⟨b, o + k, none⟩ = some (.bool (s.mdI (k : Int))) := by
  obtain ⟨b, o, ha, hb, _, hc⟩ := ElAt.get h.1 (Below.refl _ _) hk
  refine ⟨b, o, ha, hb, ?_⟩
  rw [mdI_nat]
  unfold Sh.md
  rw [getD_len hk]
  exact hc

set_option maxHeartbeats 1000000 in
theorem isMade_any (s : Sh) (w : World) (S : Nat → Prop) (a : Option Addr) (c : Nat) (a' : Option Addr) (c' : Nat) (key : Int) (h : ShAt w S s a c a' c') :
    Calls Try.prog 62 #[.agg #[.slice a s.m.length c, .slice a' s.t.length c'], .int .i64 key] w fun e w' => e = .returned (.bool (s.mdI key)) ∧ Below w.heap.size w w' := by
  have K0 := Lib.hid (Ks.start (ty := 26) h)
  have hlm : s.m.length ≤ 9223372036854775807 := by have := h.1.1; have := h.1.2.1; omega
  clear h
  obtain ⟨x0, x1⟩ := K0.out.box
  cases hk : decide (0 ≤ key ∧ key < s.m.length)
  · have hv : s.mdI key = false := by
      cases hx : s.mdI key
      · rfl
      · have := mdI_bd hx
        rw [decide_eq_true this] at hk
        cases hk
    have HK := Lib.hid hk
    rw [hv]
    clear hk hv
    go_enter Try.func62, Try.ntmps62
    go_wp2_with fail
    refine (hasKey_any s _ S a c a' c' key K0.out.2).mono ?_
    rintro e w1 ⟨rfl, hb⟩
    rw [HK.out]
    have K1 := Lib.hid (K0.out.step hb)
    clear hb x0 x1
    go_wp2_with fail
    go_ret
    exact ⟨rfl, K1.out.done⟩
  · have hk2 : 0 ≤ key ∧ key < s.m.length := by simpa using hk
    obtain ⟨kn, rfl⟩ : ∃ kn : Nat, key = kn := ⟨key.toNat, by omega⟩
    have hkn : kn < s.m.length := by omega
    have HK := Lib.hid hk
    obtain ⟨v, hv⟩ : ∃ v, v = s.mdI (kn : Int) := ⟨_, rfl⟩
    have HV := Lib.hid hv
    rw [← hv]
    clear hk hv hk2
    go_enter Try.func62, Try.ntmps62
    go_wp2_with fail
    refine (hasKey_any s _ S a c a' c' kn K0.out.2).mono ?_
    rintro e w1 ⟨rfl, hb⟩
    rw [HK.out]
    have K1 := Lib.hid (K0.out.step hb)
    clear hb x0 x1
    obtain ⟨x0, x1⟩ := K1.out.box
    obtain ⟨b, o, ha, hbl, hc⟩ := md_cell K1.out.2 hkn
    rw [← HV.out] at hc
    subst ha
    go_wp2_with fail
    go_ret
    exact ⟨rfl, K1.out.done⟩

/-- All numbers are keys. -/
def hkB (s : Sh) (ks : List Int) : Bool := ks.all fun k => decide (0 ≤ k ∧ k < s.m.length)
theorem all_tk {p : Int → Bool} {l : List Int} {k : Nat} (h : k < l.length) : (l.take (k + 1)).all p = ((l.take k).all p && p l[k]) := by
  rw [List.take_succ_eq_append_getElem h, List.all_append]; simp
theorem all_fls {p : Int → Bool} {l : List Int} {k : Nat} (h : k < l.length) (hp : p l[k] = false) : l.all p = false := by
  cases hx : l.all p
  · rfl
  · rw [List.all_eq_true] at hx
    have := hx l[k] (List.getElem_mem h)
    rw [hp] at this; cases this

set_option maxHeartbeats 1000000 in
theorem hasKeys_any (s : Sh) (ks : List Int) (w : World) (S S' : Nat → Prop) (a : Option Addr) (c : Nat) (a' : Option Addr) (c' : Nat) (ak : Option Addr) (ck : Nat) (h : ShAt w S s a c a' c') (hks : IntsAt w S' ks ak ck) :
    Calls Try.prog 53 #[.agg #[.slice a s.m.length c, .slice a' s.t.length c'], .slice ak ks.length ck] w fun e w' => e = .returned (.bool (hkB s ks)) ∧ Below w.heap.size w w' := by
  have K0 := Lib.hid (Ks.start (ty := 26) h)
  have HI := Lib.hid (hks.alloc (.cells #[.slice a s.m.length c, .slice a' s.t.length c'] 26))
  have hkl : ks.length ≤ 9223372036854775807 := by have := hks.1; have := hks.2.1; omega
  obtain ⟨KL, hKL⟩ : ∃ n, n = ks.length := ⟨_, rfl⟩
  have HKL := Lib.hid hKL
  rw [← hKL] at hkl ⊢
  obtain ⟨r, hr⟩ : ∃ r, r = hkB s ks := ⟨_, rfl⟩
  have HR := Lib.hid hr
  rw [← hr]
  clear h hks hKL hr
  go_enter Try.func53, Try.ntmps53
  go_wp2_with fail
  go_loopw [9] (fun i wr => ∃ k : Nat, k ≤ KL ∧ i = .int .i64 k ∧ (ks.take k).all (fun k => decide (0 ≤ k ∧ k < s.m.length)) = true ∧ Ks S s a c a' c' 26 w wr ∧ IntsAt wr S' ks ak ck) (fun i _ => KL - (intOf i).toNat)
  case atStart => exact ⟨0, by omega, rfl, by simp, K0.out, HI.out⟩
  case round =>
    obtain ⟨k, hk, rfl, hall, hK, hI⟩ := hrel
    have HA := Lib.hid hall
    have HK := Lib.hid (And.intro hK hI)
    obtain ⟨x0, x1⟩ := hK.box
    clear hall hK hI K0 HI
    by_cases hlt : k < KL
    · have hlt2 : k < ks.length := by have := HKL.out; omega
      obtain ⟨b, o, rfl, hbl, _, hc⟩ := HK.out.2.get (Below.refl _ _) hlt2
      obtain ⟨key, hkey⟩ : ∃ key, key = ks[k] := ⟨_, rfl⟩
      rw [← hkey] at hc
      have HKEY := Lib.hid hkey
      obtain ⟨p, hp⟩ : ∃ p, p = decide (0 ≤ key ∧ key < s.m.length) := ⟨_, rfl⟩
      have HP := Lib.hid hp
      have HL2 := Lib.hid hlt2
      clear hkey hp
      go_wp2_with fail
      refine (hasKey_any s _ S a c a' c' key HK.out.1.2).mono ?_
      rintro e w1 ⟨rfl, hb⟩
      rw [← HP.out]
      have K1 := Lib.hid (And.intro (HK.out.1.step hb) (HK.out.2.below hb))
      clear hb x0 x1 hc
      cases p
      · go_wp2_with fail
        go_ret
        exact ⟨ret_bool (by rw [HR.out]; exact (all_fls HL2.out (by rw [← HKEY.out]; exact HP.out.symm)).symm), K1.out.1.done⟩
      · go_wp2_with fail
        go_roundw
        case rel => exact ⟨k + 1, by omega, by go_num, by rw [all_tk HL2.out, HA.out, ← HKEY.out, ← HP.out]; rfl, K1.out.1, K1.out.2⟩
        case measure => simp [intOf]; omega
    · have hall : hkB s ks = true := by
        have := HA.out
        rwa [List.take_of_length_le (by have := HKL.out; omega)] at this
      have HALL := Lib.hid hall
      clear hall
      go_wp2_with fail
      go_ret
      exact ⟨ret_bool (by rw [HR.out, HALL.out]), HK.out.1.done⟩

/-- Those of some keys that are made. -/
def MoPost (s : Sh) (ks : List Int) (w : World) (e : Ending) (w' : World) : Prop := ∃ v, e = .returned v ∧ NumRow w' w.heap.size v (ks.filter s.mdI) ∧ Below w.heap.size w w'

set_option maxRecDepth 100000 in
set_option maxHeartbeats 2000000 in
theorem madeOf_any (s : Sh) (ks : List Int) (w : World) (S S' : Nat → Prop) (a : Option Addr) (c : Nat) (a' : Option Addr) (c' : Nat) (ak : Option Addr) (ck : Nat) (h : ShAt w S s a c a' c') (hks : IntsAt w S' ks ak ck) (h100 : ks.length ≤ 1000000) :
    Calls Try.prog 64 #[.agg #[.slice a s.m.length c, .slice a' s.t.length c'], .slice ak ks.length ck] w (MoPost s ks w) := by
  have K0 := Lib.hid (Ks.start (ty := 26) h.lim)
  have HI := Lib.hid (hks.alloc (.cells #[.slice a s.m.length c, .slice a' s.t.length c'] 26))
  have hkl : ks.length ≤ 9223372036854775807 := by omega
  obtain ⟨KL, hKL⟩ : ∃ n, n = ks.length := ⟨_, rfl⟩
  have HKL := Lib.hid hKL
  rw [← hKL] at hkl h100 ⊢
  obtain ⟨iN, ni, nz0, nz1, nz2⟩ := info_parts infoInt
  have HIN := Lib.hid (And.intro ni (And.intro nz0 (And.intro nz1 nz2)))
  have hml : maxLen = 9223372036854775807 := rfl
  have HML := Lib.hid hml
  clear h hks hKL ni nz0 nz1 nz2 hml
  go_enter Try.func64, Try.ntmps64
  go_wp2_with fail
  go_loopw [5, 10] (fun v i wr => ∃ k : Nat, k ≤ KL ∧ i = .int .i64 k ∧ NumRow wr (w.heap.size + 1) v ((ks.take k).filter s.mdI) ∧ Ks (fun b => S b ∧ b < w.heap.size) s a c a' c' 26 w wr ∧ IntsAt wr (fun b => S' b ∧ b < w.heap.size + 1) ks ak ck) (fun _ i _ => KL - (intOf i).toNat)
  case atStart => exact ⟨0, by omega, rfl, World.ownsRow_nil _ _ _ _, K0.out, by have := HI.out.lim; simpa using this⟩
  case round =>
    obtain ⟨k, hk, rfl, hrow, hK, hI⟩ := hrel
    have HK := Lib.hid (And.intro hK (And.intro hI hrow))
    obtain ⟨x0, x1⟩ := hK.box
    have hwr := hK.size
    clear hK hI K0 HI
    obtain ⟨acc, hacc⟩ : ∃ acc, acc = (ks.take k).filter s.mdI := ⟨_, rfl⟩
    have HAC := Lib.hid hacc
    have hal : acc.length ≤ k := by
      rw [hacc]
      have h1 := List.length_filter_le s.mdI (ks.take k)
      have h2 : (ks.take k).length ≤ k := by rw [List.length_take]; omega
      omega
    rw [← hacc] at hrow
    have HROW := Lib.hid hrow
    obtain ⟨av, cv, rfl, _⟩ := ElRow.at (f := Value.int .i64) (e := 3) hrow
    have HAL := Lib.hid hal
    clear hrow hacc hal
    by_cases hlt : k < KL
    · have hlt2 : k < ks.length := by have := HKL.out; omega
      obtain ⟨b, o, rfl, hbl, _, hc⟩ := HK.out.2.1.get (Below.refl _ _) hlt2
      obtain ⟨key, hkey⟩ : ∃ key, key = ks[k] := ⟨_, rfl⟩
      rw [← hkey] at hc
      obtain ⟨p, hp⟩ : ∃ p, p = s.mdI key := ⟨_, rfl⟩
      have HP := Lib.hid hp
      have HST := Lib.hid (show (ks.take (k + 1)).filter s.mdI = acc ++ (if p = true then [key] else []) by
        rw [List.take_succ_eq_append_getElem hlt2, List.filter_append, ← HAC.out, ← hkey, hp]
        congr 1
        rw [List.filter_cons]
        split <;> rfl)
      clear hkey hp
      go_wp2_with fail
      refine (isMade_any s _ _ a c a' c' key HK.out.1.2).mono ?_
      rintro e w1 ⟨rfl, hb⟩
      rw [← HP.out]
      have K1 := Lib.hid (And.intro (HK.out.1.step hb) (And.intro (HK.out.2.1.below hb) (ElRow.below (f := Value.int .i64) (e := 3) HROW.out hb)))
      have hs1 := hb.size
      clear hb x0 x1 hc
      cases p
      · go_wp2_with fail
        go_roundw
        case rel => exact ⟨k + 1, by omega, by go_num, by rw [HST.out, if_neg (by decide), List.append_nil]; exact K1.out.2.2, K1.out.1, K1.out.2.1⟩
        case measure => simp [intOf]; omega
      · have hal := HAL.out
        have hrow : w1.ownsRow (w.heap.size + 1) 3 1 (.slice av acc.length cv) acc.length (acc.map (Value.int .i64)) := K1.out.2.2
        have HR2 := Lib.hid hrow
        clear hrow
        go_wp2_with (at_builtin; refine wpList_append_row _ rfl (.tmp 17) (.tmp 19) 30 rfl (w.heap.size + 1) 3 iN (.int .i64 0) 1 8 Try.underlying30 HIN.out.1 HIN.out.2.1 HIN.out.2.2.1 HIN.out.2.2.2 rfl (by decide) _ acc.length (acc.map (Value.int .i64)) rfl (World.ownsRow.alloc HR2.out _) ⟨w1.heap.size, 0, none⟩ 1 1 [.int .i64 key] rfl rfl ?d1 ?d2 (by decide) ?d3 ?d4 ?d5 ?_)
        case d1 => exact news1 _ _ _
        case d2 => simp [Value.oneCell']
        case d3 => rw [HML.out]; omega
        case d4 => omega
        case d5 => simp; omega
        intro v2 w2 hown hgr hnew
        have hN2 : NumRow w2 (w.heap.size + 1) v2 (acc ++ [key]) := by
          unfold NumRow
          rw [List.map_append, show (acc ++ [key]).length = acc.length + 1 by simp]
          exact hown
        have hlt1 := World.ownsRow.lt HR2.out
        have hB2 : Below (w.heap.size + 1) w1 w2 := ((Below.refl _ _).alloc (by omega) (.cells #[.int .i64 key] 3)).trans (below_grown hgr (by simp; omega) (fun b hb => (hlt1 b hb).1))
        have hK2 : Ks (fun b => S b ∧ b < w.heap.size) s a c a' c' 26 w w2 := K1.out.1.fr (D := fun b => w.heap.size + 1 ≤ b) ⟨hB2.os, hB2.tape, hB2.output, hB2.size, fun b _ hn => hB2.block b (by omega)⟩ (fun _ h => h) (fun _ h => h.2)
        have hI2 : IntsAt w2 (fun b => S' b ∧ b < w.heap.size + 1) ks (some ⟨b, o, none⟩) ck := K1.out.2.1.keep (fun _ h => h) (fun b hb _ => hB2.block b hb.2)
        have H2 := Lib.hid (And.intro hN2 (And.intro hK2 hI2))
        clear hown hgr hnew hN2 hB2 hK2 hI2 hlt1 hal
        go_wp2_with fail
        go_roundw
        case rel => exact ⟨k + 1, by omega, by go_num, by rw [HST.out, if_pos trivial]; exact H2.out.1, H2.out.2.1, H2.out.2.2⟩
        case measure => simp [intOf]; omega
    · have hq : ks.take k = ks := List.take_of_length_le (by have := HKL.out; omega)
      have HQ := Lib.hid hq
      clear hq
      go_wp2_with fail
      go_ret
      exact ⟨_, rfl, by rw [← HQ.out, ← HAC.out]; exact ownsRow_low HROW.out (by omega), HK.out.1.done⟩

/-- All keys of a list are built. -/
theorem allBuilt_any (ks : List Int) (w : World) (S : Nat → Prop) (ak : Option Addr) (ck : Nat) (bm nm : Nat) (f : Int → Bool) (hks : IntsAt w S ks ak ck) (hm : MapB w bm nm f) :
    Calls Try.prog 63 #[.slice ak ks.length ck, .map (some bm)] w fun e w' => e = .returned (.bool (ks.all f)) ∧ w = w' := by
  have HI := Lib.hid hks
  have HM := Lib.hid hm
  have hkl : ks.length ≤ 9223372036854775807 := by have := hks.1; have := hks.2.1; omega
  obtain ⟨KL, hKL⟩ : ∃ n, n = ks.length := ⟨_, rfl⟩
  have HKL := Lib.hid hKL
  rw [← hKL] at hkl ⊢
  obtain ⟨r, hr⟩ : ∃ r, r = ks.all f := ⟨_, rfl⟩
  have HR := Lib.hid hr
  rw [← hr]
  clear hks hKL hr hm
  go_enter Try.func63, Try.ntmps63
  go_wp2_with fail
  go_loop [9] (fun i => ∃ k : Nat, k ≤ KL ∧ i = .int .i64 k ∧ (ks.take k).all f = true) (fun i => KL - (intOf i).toNat)
  case atStart => exact ⟨0, by omega, rfl, by simp⟩
  case round =>
    obtain ⟨k, hk, rfl, hall⟩ := hrel
    have HA := Lib.hid hall
    clear hall
    by_cases hlt : k < KL
    · have hlt2 : k < ks.length := by have := HKL.out; omega
      obtain ⟨b, o, rfl, hbl, _, hc⟩ := HI.out.get (Below.refl _ _) hlt2
      obtain ⟨key, hkey⟩ : ∃ key, key = ks[k] := ⟨_, rfl⟩
      have hkok : i64ok key := by rw [hkey]; exact HI.out.2.2.1 _ (List.getElem_mem _)
      rw [← hkey] at hc
      have HKEY := Lib.hid hkey
      have hlook := HM.out.look Try.underlying72 hkok
      obtain ⟨p, hp⟩ : ∃ p, p = f key := ⟨_, rfl⟩
      rw [← hp] at hlook
      have HP := Lib.hid hp
      have HL2 := Lib.hid hlt2
      clear hkey hp hkok
      cases p
      · go_wp2_with fail
        go_ret
        exact ⟨ret_bool (by rw [HR.out]; exact (all_fls HL2.out (by rw [← HKEY.out]; exact HP.out.symm)).symm), rfl⟩
      · go_wp2_with fail
        go_round
        case rel => exact ⟨k + 1, by omega, by go_num, by rw [all_tk HL2.out, HA.out, ← HKEY.out, ← HP.out]; rfl⟩
        case measure => simp [intOf]; omega
    · have hall : ks.all f = true := by
        have := HA.out
        rwa [List.take_of_length_le (by have := HKL.out; omega)] at this
      have HALL := Lib.hid hall
      clear hall
      go_wp2_with fail
      go_ret
      exact ⟨ret_bool (by rw [HR.out, HALL.out]), rfl⟩
end Go.Proofs.Ytklmpagpkeffjaa

/- what is safe is built with all inputs -/
namespace Go.Proofs.Ytklmpagpkeffjaa
open Go.RowKit

/-- What is safe is built with all inputs. -/
theorem safe_ok {s : Sh} (h : s.ok = true) (l : List Int) : ∀ (r : Nat) (k : Int), rkG (chM s) (fun k => !s.mdI k) k ≤ r → okM s k = true → okS s l k = true := by
  intro r
  induction r with
  | zero =>
    intro k hr hk
    cases hd : (fun k => !s.mdI k) k
    · refine (gr_S h l).up k fun j hj => ?_
      have hf := tkI_fit h k
      have hm := kys_may _ (s.tkI k) hf j hj
      have hb := (T.kys_bd _ (s.tkI k) hf).1 j hj
      have := ((gr_M s).down k hk hd j (mayI_mem.2 ⟨hb.1, by omega, hm⟩)).2
      omega
    · exact (gr_S h l).d0ok k hd
  | succ r ih =>
    intro k hr hk
    cases hd : (fun k => !s.mdI k) k
    · refine (gr_S h l).up k fun j hj => ?_
      have hf := tkI_fit h k
      have hm := kys_may _ (s.tkI k) hf j hj
      have hb := (T.kys_bd _ (s.tkI k) hf).1 j hj
      have hj' := (gr_M s).down k hk hd j (mayI_mem.2 ⟨hb.1, by omega, hm⟩)
      exact ih j (by omega) hj'.1
    · exact (gr_S h l).d0ok k hd
theorem safe_all {s : Sh} {l : List Int} (h : safeB s = true) (hl : l.length = s.m.length) (hv : vok l = true) : baB s l = true := by
  unfold safeB at h
  rw [Bool.and_eq_true, List.all_eq_true] at h
  unfold baB inOk baTo
  rw [h.1, hv, hl]
  simp only [decide_true, Bool.true_and, List.all_eq_true]
  exact fun i hi => safe_ok h.1 l _ _ (Nat.le_refl _) (h.2 i hi)
end Go.Proofs.Ytklmpagpkeffjaa

/- orders by suspending and by restarting: what is told, and how much; plain words, no program -/
namespace Go.Proofs.Ytklmpagpkeffjaa
open Go.RowKit

def d0S (s : Sh) : Int → Bool := fun k => !s.mdI k
noncomputable def suB (s : Sh) (l ks : List Int) : Bool := (inOk s l && hkB s ks) && ks.all (okS s l)
noncomputable def suL (s : Sh) (l ks : List Int) : List Int := if suB s l ks = true then endsL emS (chS s l) (d0S s) ks else []
noncomputable def rsB (s : Sh) (l ks : List Int) : Bool := (inOk s l && hkB s ks) && safeB s
noncomputable def rsL (s : Sh) (l ks : List Int) : List Int := if rsB s l ks = true then endsL emR (chS s l) (d0S s) ks else []

/-- What an order's function leaves. -/
def OrP (B : Bool) (L : List Int) (w : World) (e : Ending) (w' : World) : Prop := Below w.heap.size w w' ∧ ∃ v, e = .returned (.tuple #[v, .bool B]) ∧ NumRow w' w.heap.size v L
theorem OrP.su_no {s : Sh} {l ks : List Int} {w w' : World} {v : Value} (h : suB s l ks = false) (hb : Below w.heap.size w w') (hv : NumRow w' w.heap.size v []) : OrP (suB s l ks) (suL s l ks) w (.returned (.tuple #[v, .bool false])) w' := by
  unfold suL
  rw [h, if_neg (by decide)]
  exact ⟨hb, v, rfl, hv⟩
theorem OrP.su_yes {s : Sh} {l ks : List Int} {w w' : World} {v : Value} {o : List Int} {m : Nat} (h : suB s l ks = true) (ho : Ends emS (chS s l) (d0S s) ks o m) (hb : Below w.heap.size w w') (hv : NumRow w' w.heap.size v o) : OrP (suB s l ks) (suL s l ks) w (.returned (.tuple #[v, .bool true])) w' := by
  unfold suL
  rw [h, if_pos rfl, endsL_eq ho]
  exact ⟨hb, v, rfl, hv⟩
theorem OrP.rs_no {s : Sh} {l ks : List Int} {w w' : World} {v : Value} (h : rsB s l ks = false) (hb : Below w.heap.size w w') (hv : NumRow w' w.heap.size v []) : OrP (rsB s l ks) (rsL s l ks) w (.returned (.tuple #[v, .bool false])) w' := by
  unfold rsL
  rw [h, if_neg (by decide)]
  exact ⟨hb, v, rfl, hv⟩
theorem OrP.rs_yes {s : Sh} {l ks : List Int} {w w' : World} {v : Value} {o : List Int} {m : Nat} (h : rsB s l ks = true) (ho : Ends emR (chS s l) (d0S s) ks o m) (hb : Below w.heap.size w w') (hv : NumRow w' w.heap.size v o) : OrP (rsB s l ks) (rsL s l ks) w (.returned (.tuple #[v, .bool true])) w' := by
  unfold rsL
  rw [h, if_pos rfl, endsL_eq ho]
  exact ⟨hb, v, rfl, hv⟩

theorem emR_cnt : ∀ (k : Int) (y : Option Int) (x : Int), (emR k y).count x ≤ if x = k then 1 else 0 := fun k y x => by
  unfold emR
  rw [List.count_singleton]
  by_cases h : x = k
  · subst h; simp
  · have : (k == x) = false := by simpa using fun e => h e.symm
    simp [this]
theorem emS_cnt : ∀ (k : Int) (y : Option Int) (x : Int), (emS k y).count x ≤ if x = k then 1 else 0 := fun k y x => by
  unfold emS
  split
  · exact emR_cnt k y x
  · simp

/-- What is safe never fails. -/
theorem safe_oks {s : Sh} {l : List Int} (hin : inOk s l = true) (hs : safeB s = true) (k : Int) : okS s l k = true := by
  obtain ⟨h1, _, _⟩ := inOk_of hin
  cases hm : s.mdI k
  · exact (gr_S h1 l).d0ok k (by simp only [hm]; rfl)
  · unfold safeB at hs
    rw [Bool.and_eq_true, List.all_eq_true] at hs
    have hk := mdI_bd hm
    have h := hs.2 k.toNat (List.mem_range.2 (by omega))
    rw [show ((k.toNat : Nat) : Int) = k by omega] at h
    exact safe_ok hs.1 l _ _ (Nat.le_refl _) h

theorem cnt_bd {s : Sh} {l : List Int} (hok : s.ok = true) (x : Int) : cnt (chS s l) (d0S s) x ≤ 16 := by
  unfold cnt
  split
  · omega
  · have h1 := List.length_filter_le (fun y => !d0S s y) (usesL (chS s l x))
    have h2 := usesL_len (chS s l x)
    have h3 := (T.kys_bd (vsS s l) (s.tkI x) (tkI_fit hok _)).2
    have h4 := (Sh.tk_fit hok x.toNat).2
    have h5 : (chS s l x).length ≤ (s.tkI x).nodes := h3
    have h6 : (s.tkI x).nodes ≤ 15 := h4
    omega
theorem ends_bd {s : Sh} {l o : List Int} (hok : s.ok = true) (hf : ∀ x, o.count x ≤ cnt (chS s l) (d0S s) x) : (∀ x ∈ o, s.mdI x = true) ∧ o.length ≤ 160 := by
  have h1 : ∀ x ∈ o, s.mdI x = true := fun x hx => by
    have h := hf x
    have h2 := List.count_pos_iff.2 hx
    cases hm : s.mdI x
    · unfold cnt at h
      rw [if_pos (by unfold d0S; rw [hm]; rfl)] at h
      omega
    · rfl
  refine ⟨h1, ?_⟩
  have h3 := len_count s.m.length o 16 (fun x hx => mdI_bd (h1 x hx)) (fun x => Nat.le_trans (hf x) (cnt_bd hok x))
  have := (Sh.ok_iff.1 hok).1
  have : s.m.length * 16 ≤ 10 * 16 := Nat.mul_le_mul_right 16 this
  omega
theorem rsL_bd (s : Sh) (l ks : List Int) : (∀ x ∈ rsL s l ks, 0 ≤ x ∧ x < 10) ∧ (rsL s l ks).length ≤ 160 := by
  unfold rsL
  split
  · rename_i h
    unfold rsB at h
    rw [Bool.and_eq_true, Bool.and_eq_true] at h
    have hok := (inOk_of h.1.1).1
    obtain ⟨o, m, he, hc⟩ := ends_all (em := emR) (gr_S hok l) emR_cnt ks (fun x _ => safe_oks h.1.1 h.2 x) (d0S s) (fun _ h => h) (fun x _ => safe_oks h.1.1 h.2 x)
    rw [endsL_eq he]
    have hb := ends_bd hok hc
    refine ⟨fun x hx => ?_, hb.2⟩
    have := mdI_bd (hb.1 x hx)
    have := (Sh.ok_iff.1 hok).1
    omega
  · simp
theorem suL_bd (s : Sh) (l ks : List Int) : (∀ x ∈ suL s l ks, 0 ≤ x ∧ x < 10) ∧ (suL s l ks).length ≤ 160 := by
  unfold suL
  split
  · rename_i h
    unfold suB at h
    rw [Bool.and_eq_true, Bool.and_eq_true, List.all_eq_true] at h
    have hok := (inOk_of h.1.1).1
    obtain ⟨o, m, he, hc⟩ := ends_all (em := emS) (gr_S hok l) emS_cnt ks h.2 (d0S s) (fun _ h => h) (fun x hx => (gr_S hok l).d0ok x hx)
    rw [endsL_eq he]
    have hb := ends_bd hok hc
    refine ⟨fun x hx => ?_, hb.2⟩
    have := mdI_bd (hb.1 x hx)
    have := (Sh.ok_iff.1 hok).1
    omega
  · simp
end Go.Proofs.Ytklmpagpkeffjaa

/- spec.l4Try -/
namespace Go.Proofs.Ytklmpagpkeffjaa
open Go.RowKit

/-- What is done: what is not made, and what is on the list. -/
def dnS (s : Sh) (D : List Int) : Int → Bool := fun k => !s.mdI k || decide (k ∈ D)
theorem dnS_nil (s : Sh) : dnS s [] = d0S s := by funext k; simp [dnS, d0S]
theorem dnS_snoc (s : Sh) (D : List Int) (k : Int) : dnS s (D ++ [k]) = upd (dnS s D) k := by
  funext x
  simp [dnS, upd, Bool.or_assoc]
theorem dnS_lo {s : Sh} {D : List Int} {x : Int} (h : d0S s x = true) : dnS s D x = true := by unfold dnS; unfold d0S at h; rw [h]; rfl

/-- What a try leaves. -/
def TryPost (s : Sh) (l D : List Int) (k : Nat) (w : World) (e : Ending) (w' : World) : Prop :=
  Below w.heap.size w w' ∧ ((∃ j, nxt (chS s l) (dnS s D) k = some j ∧ e = .returned (.tuple #[.int .i64 0, .int .i64 j, .bool false])) ∨ (nxt (chS s l) (dnS s D) k = none ∧ e = .returned (.tuple #[.int .i64 (vsS s l k), .int .i64 (-1), .bool true])))

/-- What l2Next gives, in two. -/
theorem NextPost.both {K : List Int} {m : Nat} {w : World} {v : Int} {e : Ending} {w' : World} (h : NextPost K m w v e w') : ∃ x y b, e = .returned (.tuple #[.int .i64 x, .int .i64 y, .bool b]) ∧ Below w.heap.size w w' ∧ ((b = true ∧ m = K.length ∧ x = v) ∨ (b = false ∧ m < K.length ∧ K[m]? = some y)) := by
  obtain ⟨hb, ⟨h1, lk, rfl⟩ | ⟨h1, u, key, hk, rfl⟩⟩ := h
  · exact ⟨_, _, _, rfl, hb, .inl ⟨rfl, h1, rfl⟩⟩
  · exact ⟨_, _, _, rfl, hb, .inr ⟨rfl, h1, hk⟩⟩

set_option maxRecDepth 100000 in
set_option maxHeartbeats 4000000 in
theorem try4_any (s : Sh) (l vl D : List Int) (k : Nat) (w : World) (S0 S1 S2 : Nat → Prop) (a : Option Addr) (c : Nat) (a' : Option Addr) (c' : Nat) (av : Option Addr) (cv : Nat) (ad : Option Addr) (cd : Nat) (hat : ShAt w S0 s a c a' c') (hv : IntsAt w S1 vl av cv) (hd : IntsAt w S2 D ad cd)
    (hin : inOk s l = true) (hk : k < s.m.length) (hmk : s.mdI (k : Int) = true) (hvl : ∀ x, 0 ≤ x → vf vl x = if dnS s D x = true then vsS s l x else vf l x) (hok : ∀ x, dnS s D x = true → okS s l x = true) :
    Calls Try.prog 75 #[.agg #[.slice a s.m.length c, .slice a' s.t.length c'], .slice av vl.length cv, .slice ad D.length cd, .int .i64 (k : Int)] w (TryPost s l D k w) := by
  obtain ⟨h1, h2, h3⟩ := inOk_of hin
  have hlm : s.m.length ≤ 10 := (Sh.ok_iff.1 h1).1
  have htl : s.t.length = s.m.length := (Sh.ok_iff.1 h1).2.1
  have hkt : k < s.t.length := by omega
  have K0 := Lib.hid (Ks.start (ty := 26) hat.lim)
  have V0 := Lib.hid (hv.lim.alloc (.cells #[.slice a s.m.length c, .slice a' s.t.length c'] 26))
  have D0 := Lib.hid (hd.lim.alloc (.cells #[.slice a s.m.length c, .slice a' s.t.length c'] 26))
  have HOK := Lib.hid h1
  have HIN := Lib.hid hin
  have HMK := Lib.hid hmk
  have HVL := Lib.hid hvl
  have HDO := Lib.hid hok
  have HTL := Lib.hid htl
  have htk : s.t[k] = s.tkI (k : Int) := by unfold Sh.tkI; rw [Int.toNat_natCast]; exact (getD_len hkt).symm
  have HTK := Lib.hid htk
  obtain ⟨K, hK⟩ : ∃ K, K = chS s l (k : Int) := ⟨_, rfl⟩
  have hKb := (T.kys_bd (vsS s l) (s.tkI (k : Int)) (tkI_fit h1 _))
  have hkl15 : K.length ≤ 15 := by
    rw [hK]
    have h2 := (Sh.tk_fit h1 (k : Int).toNat).2
    have h3 : (chS s l k).length ≤ (s.tkI (k : Int)).nodes := hKb.2
    have h4 : (s.tkI (k : Int)).nodes ≤ 15 := h2
    omega
  have HKB := Lib.hid (show ∀ y ∈ K, 0 ≤ y ∧ y ≤ 9 from by rw [hK]; exact hKb.1)
  have hvb := vsS_bd hin
  have HNX := Lib.hid (show ∀ (m : Nat), m ≤ K.length → ∀ (w : World) (S S' : Nat → Prop) (a a' : Option Addr) (c c' : Nat), AtS w S (s.tkI (k : Int)).ps a c → IntsAt w S' ((K.take m).map (vsS s l)) a' c' → Calls Try.prog 108 #[.agg #[.int .i64 (s.tkI (k : Int)).k, .int .i64 (s.tkI (k : Int)).n, .slice a (s.tkI (k : Int)).ps.length c], .slice a' m c'] w (NextPost K m w ((s.tkI (k : Int)).val (vsS s l))) from by
    rw [hK]
    exact next_any (vsS s l) hvb (s.tkI (k : Int)) (tkI_fit h1 _))
  have HVB := Lib.hid hvb
  have HK := Lib.hid hK
  obtain ⟨iN, ni, nz0, nz1, nz2⟩ := info_parts infoInt
  have HI2 := Lib.hid (And.intro ni (And.intro nz0 (And.intro nz1 nz2)))
  have hml : maxLen = 9223372036854775807 := rfl
  have HML := Lib.hid hml
  clear hat hv hd h1 h2 h3 htl hin hmk hvl hok htk hK hKb hvb ni nz0 nz1 nz2 hml
  obtain ⟨x0, x1⟩ := K0.out.box
  have K1 := Lib.hid (K0.out.alloc (.cells #[] 3))
  have V1 := Lib.hid (V0.out.alloc (.cells #[] 3))
  have D1 := Lib.hid (D0.out.alloc (.cells #[] 3))
  have hg1 := rowN_new (w.alloc (.cells #[.slice a s.m.length c, .slice a' s.t.length c'] 26))
  simp only [World.size_alloc] at hg1
  have HG1 := Lib.hid hg1
  clear hg1
  obtain ⟨b', o', a2, c2, rfl, hbl', hSb', e0, e1, e2, hat, _, _⟩ := K1.out.2.2.elem (Below.refl _ _) hkt
  rw [HTK.out] at hat e0 e1 e2
  have HAT := Lib.hid hat
  clear hat K0 V0 D0 x0 x1
  obtain ⟨x0, x1⟩ := K1.out.box
  go_enter Try.func75, Try.ntmps75
  go_wp2_with fail
  refine (HNX.out 0 (Nat.zero_le _) _ _ (fun _ => True) a2 _ c2 0 HAT.out (IntsAt.nil (by omega))).mono ?_
  intro e w2 hp
  obtain ⟨x, y, bb, rfl, hb, hcase⟩ := hp.both
  have hg2 := ElRow.below (f := Value.int .i64) (e := 3) HG1.out hb
  have H2 := Lib.hid (And.intro (K1.out.step hb) (And.intro (V1.out.below hb) (And.intro (D1.out.below hb) (And.intro hg2 hcase))))
  clear hp hb hcase hg2 K1 V1 D1 HG1 HAT e0 e1 e2 x0 x1 hbl'
  go_wp2_with fail
  go_loopw [11, 12, 13, 14] (fun vg vx vy vb wr => ∃ (m : Nat) (x y : Int) (b : Bool), m ≤ K.length ∧ vx = .int .i64 x ∧ vy = .int .i64 y ∧ vb = .bool b ∧ (∀ j ∈ K.take m, dnS s D j = true) ∧ NumRow wr (w.heap.size + 1) vg ((K.take m).map (vsS s l)) ∧
    Ks (fun b => S0 b ∧ b < w.heap.size) s a c (some ⟨b', o', none⟩) c' 26 w wr ∧ IntsAt wr (fun b => S1 b ∧ b < w.heap.size) vl av cv ∧ IntsAt wr (fun b => S2 b ∧ b < w.heap.size) D ad cd ∧ ((b = true ∧ m = K.length ∧ x = (s.tkI (k : Int)).val (vsS s l)) ∨ (b = false ∧ m < K.length ∧ K[m]? = some y))) (fun vg _ _ _ _ => K.length - slLen vg)
  case atStart => exact ⟨0, x, y, bb, Nat.zero_le _, rfl, rfl, rfl, by simp, H2.out.2.2.2.1, H2.out.1, H2.out.2.1, H2.out.2.2.1, H2.out.2.2.2.2⟩
  case round =>
    obtain ⟨m, x, y, b, hm, rfl, rfl, rfl, hdn, hg, hKs, hV, hD, hcase⟩ := hrel
    have H3 := Lib.hid (And.intro hdn (And.intro hg (And.intro hKs (And.intro hV hD))))
    have hws := hKs.size
    obtain ⟨x0, x1⟩ := hKs.box
    have HSL := Lib.hid (show slLen u11 = m from by rw [NumRow.len hg, got_len hm])
    obtain ⟨ag, cg, hvg, hia⟩ := NumRow.at hg (fun x hx => by
      obtain ⟨j, _, rfl⟩ := List.mem_map.1 hx
      have := HVB.out j
      unfold i64ok; omega)
    rw [got_len hm] at hvg
    subst hvg
    have HM := Lib.hid hm
    clear hdn hg hKs hV hD H2 hm hia
    rcases hcase with ⟨rfl, hmK, hx⟩ | ⟨rfl, hlt, hky⟩
    · have hall : ∀ j ∈ K, dnS s D j = true := fun j hj => H3.out.1 j (by rw [List.take_of_length_le (by omega)]; exact hj)
      have hno : nxt (chS s l) (dnS s D) (k : Int) = none := by
        unfold nxt
        rw [← HK.out, List.find?_eq_none]
        intro j hj
        rw [hall j hj]; simp
      have hval : x = vsS s l (k : Int) := by
        rw [hx]
        exact (vsS_made HOK.out HMK.out ((gr_S HOK.out l).up (k : Int) (fun j hj => HDO.out j (hall j (by rw [HK.out]; exact hj))))).symm
      have HV := Lib.hid (And.intro hno hval)
      clear hmK hx hall hno hval
      go_wp2_with fail
      go_ret3
      exact ⟨H3.out.2.2.1.done, .inr ⟨HV.out.1, by rw [← HV.out.2]; rfl⟩⟩
    · have hyb := HKB.out y (List.mem_of_getElem? hky)
      obtain ⟨yn, rfl⟩ : ∃ yn : Nat, y = yn := ⟨y.toNat, by omega⟩
      have HKY := Lib.hid (And.intro hlt hky)
      have hmle : m ≤ 15 := by omega
      clear hlt hky
      cases hyd : dnS s D (yn : Int)
      · have hno : nxt (chS s l) (dnS s D) (k : Int) = some (yn : Int) := by
          unfold nxt
          rw [← HK.out]
          exact find_at H3.out.1 HKY.out.2 hyd
        have HNO := Lib.hid hno
        have hym : s.mdI (yn : Int) = true := by
          cases hz : s.mdI (yn : Int)
          · unfold dnS at hyd; rw [hz] at hyd; simp at hyd
          · rfl
        have hyD : decide ((yn : Int) ∈ D) = false := by
          unfold dnS at hyd
          rw [Bool.or_eq_false_iff] at hyd
          exact hyd.2
        have hyl : yn < s.m.length := by have := (mdI_bd hym).2; omega
        obtain ⟨bm, om, ha, hbml, hcm⟩ := md_cell H3.out.2.2.1.2 hyl
        rw [hym] at hcm
        have HYD := Lib.hid hyD
        have HA := Lib.hid ha
        clear hno hym hyD hyd ha
        obtain rfl := HA.out
        go_wp2_with fail
        refine (has_any wr _ D ad cd (yn : Int) H3.out.2.2.2.2).mono ?_
        rintro e w4 ⟨rfl, rfl⟩
        rw [HYD.out]
        go_wp2_with fail
        go_ret3
        exact ⟨H3.out.2.2.1.done, .inl ⟨_, HNO.out, rfl⟩⟩
      · have hvy : vf vl (yn : Int) = vsS s l (yn : Int) := by rw [HVL.out _ (by omega), hyd, if_pos rfl]
        obtain ⟨v4, hv4⟩ : ∃ v, v = vsS s l (yn : Int) := ⟨_, rfl⟩
        rw [← hv4] at hvy
        have HV4 := Lib.hid (And.intro hyd (And.intro hvy hv4))
        have hml : (((K.take m).map (vsS s l))).length = m := got_len HM.out
        obtain ⟨G, hG⟩ : ∃ G, G = (K.take m).map (vsS s l) := ⟨_, rfl⟩
        have HGE := Lib.hid hG
        have HGN := Lib.hid (show G.length = m by rw [hG]; exact hml)
        have hgow2 : wr.ownsRow (w.heap.size + 1) 3 1 (.slice ag m cg) m (G.map (.int .i64)) := by
          have h := H3.out.2.1
          unfold NumRow at h
          rwa [hml, ← hG] at h
        have HGO := Lib.hid hgow2
        have htri : (yn < s.m.length ∧ s.mdI (yn : Int) = true ∧ decide ((yn : Int) ∈ D) = true) ∨ (yn < s.m.length ∧ s.mdI (yn : Int) = false) ∨ s.m.length ≤ yn := by
          by_cases h1 : yn < s.m.length
          · cases h2 : s.mdI (yn : Int)
            · exact .inr (.inl ⟨h1, rfl⟩)
            · refine .inl ⟨h1, rfl, ?_⟩
              unfold dnS at hyd
              rw [h2] at hyd
              simpa using hyd
          · exact .inr (.inr (by omega))
        clear hml hG hgow2 hvy hv4 hyd
        rcases htri with ⟨hyl, hym, hyD⟩ | ⟨hyl, hym⟩ | hyl
        case' inl =>
          obtain ⟨bm, om, ha, hbml, hcm⟩ := md_cell H3.out.2.2.1.2 hyl
          rw [hym] at hcm
          have HYD := Lib.hid hyD
          have HA := Lib.hid ha
          clear hym hyD ha
          obtain rfl := HA.out
          go_wp2_with fail
          refine (has_any wr _ D ad cd (yn : Int) H3.out.2.2.2.2).mono ?_
          rintro e w4 ⟨rfl, rfl⟩
          rw [HYD.out]
          go_wp2_with fail
          clear hcm hbml HA HYD
        case' inr.inl =>
          obtain ⟨bm, om, ha, hbml, hcm⟩ := md_cell H3.out.2.2.1.2 hyl
          rw [hym] at hcm
          have HA := Lib.hid ha
          clear hym ha
          obtain rfl := HA.out
          go_wp2_with fail
          clear hcm hbml HA
        case' inr.inr => go_wp2_with fail
        all_goals
          refine (of_any wr _ vl av cv H3.out.2.2.2.1 (yn : Int) (by omega) (by omega)).mono ?_
          rintro e w4 ⟨rfl, rfl⟩
          rw [HV4.out.2.1]
          clear hyl
          go_wp2_with (at_builtin; refine wpList_append_row _ rfl (.tmp 48) (.tmp 52) 30 rfl (w.heap.size + 1) 3 iN (.int .i64 0) 1 8 Try.underlying30 HI2.out.1 HI2.out.2.1 HI2.out.2.2.1 HI2.out.2.2.2 rfl (by decide) _ m (G.map (.int .i64)) rfl (World.ownsRow.alloc HGO.out _) ⟨wr.heap.size, 0, none⟩ 1 1 [.int .i64 v4] rfl rfl ?f1 ?f2 (by decide) ?f3 ?f4 ?f5 ?_)
          case f1 => exact news1 _ _ _
          case f2 => simp [Value.oneCell']
          case f3 => rw [HML.out]; omega
          case f4 => omega
          case f5 => simp; omega
          intro vg6 w6 hown hgr hnew
          have hltg := World.ownsRow.lt HGO.out
          have hB6 : Below (w.heap.size + 1) wr w6 := ((Below.refl _ _).alloc (by omega) (.cells #[.int .i64 v4] 3)).trans (below_grown hgr (by simp; omega) (fun b hb => (hltg b hb).1))
          have hFr : Fr (fun b => w.heap.size + 1 ≤ b) wr w6 := ⟨hB6.os, hB6.tape, hB6.output, hB6.size, fun b _ hn => hB6.block b (by omega)⟩
          have hK6 := H3.out.2.2.1.fr hFr (fun _ h => h) (fun _ h => h.2)
          clear hFr
          have hV6 := H3.out.2.2.2.1.keep (w' := w6) (fun _ h => h) (fun b hb _ => hB6.block b (by have := hb.2; omega))
          have hD6 := H3.out.2.2.2.2.keep (w' := w6) (fun _ h => h) (fun b hb _ => hB6.block b (by have := hb.2; omega))
          have htk1 : K.take (m + 1) = K.take m ++ [(yn : Int)] := take_succ_map HKY.out.2
          have hl6 : ((K.take (m + 1)).map (vsS s l)).length = m + 1 := got_len (by have := HKY.out.1; omega)
          have hg6 : NumRow w6 (w.heap.size + 1) vg6 ((K.take (m + 1)).map (vsS s l)) := by
            unfold NumRow
            rw [hl6, htk1, List.map_append, List.map_append, ← HGE.out]
            simp only [List.map_cons, List.map_nil]
            rw [← HV4.out.2.2]
            exact hown
          have hdn6 : ∀ j ∈ K.take (m + 1), dnS s D j = true := by
            rw [htk1]
            intro j hj
            rw [List.mem_append, List.mem_singleton] at hj
            rcases hj with hj | rfl
            · exact H3.out.1 j hj
            · exact HV4.out.1
          obtain ⟨ag6, cg6, hv6, hia6⟩ := NumRow.at hg6 (fun x hx => by
            obtain ⟨j, _, rfl⟩ := List.mem_map.1 hx
            have := HVB.out j
            unfold i64ok; omega)
          rw [hl6] at hv6
          subst hv6
          have hcg6 : m + 1 ≤ cg6 ∧ cg6 ≤ 9223372036854775807 := by have h1 := hia6.1; have h2 := hia6.2.1; rw [hl6] at h1; omega
          obtain ⟨b7, o7, a7, c7, he7, hbl7, hSb7, e0, e1, e2, hat, _, _⟩ := hK6.2.2.elem (Below.refl _ _) hkt
          injection he7 with he7
          injection he7 with he7 he7'
          subst he7 he7'
          rw [HTK.out] at hat e0 e1 e2
          have HAT := Lib.hid hat
          have HIA := Lib.hid hia6
          have H6 := Lib.hid (And.intro hdn6 (And.intro hg6 (And.intro hK6 (And.intro hV6 hD6))))
          obtain ⟨x0, x1⟩ := hK6.box
          have HLT := Lib.hid (show m + 1 ≤ K.length by have := HKY.out.1; omega)
          clear hown hgr hnew hltg hB6 hK6 hV6 hD6 htk1 hl6 hg6 hdn6 hia6 hat hSb7
          go_wp2_with fail
          refine (HNX.out (m + 1) HLT.out w6 _ _ a7 ag6 c7 cg6 HAT.out HIA.out).mono ?_
          intro e w7 hp
          obtain ⟨x7, y7, b8, rfl, hb, hcase⟩ := hp.both
          have H7 := Lib.hid (And.intro (ElRow.below (f := Value.int .i64) (e := 3) H6.out.2.1 hb) (And.intro (H6.out.2.2.1.step hb) (And.intro (H6.out.2.2.2.1.below hb) (And.intro (H6.out.2.2.2.2.below hb) hcase))))
          clear hp hb hcase e0 e1 e2
          go_wp2_with fail
          refine ⟨⟨m + 1, x7, y7, b8, HLT.out, rfl, rfl, rfl, H6.out.1, H7.out.1, H7.out.2.1, H7.out.2.2.1, H7.out.2.2.2.1, H7.out.2.2.2.2⟩, ?_⟩
          rw [HSL.out]
          simp only [slLen]
          have := HKY.out.1
          omega
end Go.Proofs.Ytklmpagpkeffjaa

/- where spec.OrderRestart stands: values, what is done, what is told, and a queue, each in memory of its own -/
namespace Go.Proofs.Ytklmpagpkeffjaa
open Go.RowKit

section
variable {em : Int → Option Int → List Int} {ch : Int → List Int} {d : Int → Bool} {q o : List Int} {m : Nat} {k : Int}
theorem Ends.inv_nil (h : Ends em ch d [] o m) : o = [] := by cases h; rfl
theorem Ends.inv_skip (h : Ends em ch d (k :: q) o m) (hk : d k = true) : ∃ m', m = m' + 1 ∧ Ends em ch d q o m' := by
  cases h with
  | skip _ h => exact ⟨_, rfl, h⟩
  | fin h2 _ _ => rw [hk] at h2; cases h2
  | more h2 _ _ => rw [hk] at h2; cases h2
theorem Ends.inv_fin (h : Ends em ch d (k :: q) o m) (hk : d k = false) (hn : nxt ch d k = none) : ∃ m' o', m = m' + 1 ∧ o = em k none ++ o' ∧ Ends em ch (upd d k) q o' m' := by
  cases h with
  | skip h2 _ => rw [hk] at h2; cases h2
  | fin _ _ h => exact ⟨_, _, rfl, rfl, h⟩
  | more _ h2 _ => rw [hn] at h2; cases h2
theorem Ends.inv_more {j : Int} (h : Ends em ch d (k :: q) o m) (hk : d k = false) (hn : nxt ch d k = some j) : ∃ m' o', m = m' + 1 ∧ o = em k (some j) ++ o' ∧ Ends em ch d (j :: k :: q) o' m' := by
  cases h with
  | skip h2 _ => rw [hk] at h2; cases h2
  | fin _ h2 _ => rw [hn] at h2; cases h2
  | more _ h2 h =>
    rw [hn] at h2
    injection h2 with h2
    subst h2
    exact ⟨_, _, rfl, rfl, h⟩
end

structure RsAt (w : World) (base : Nat) (vv vd vo : Value) (vl D O q : List Int) (aq : Option Addr) (cq : Nat) : Prop where
  v : NumRow w base vv vl
  d : NumRow w base vd D
  o : NumRow w base vo O
  q : ∃ Sq : Nat → Prop, IntsAt w Sq q aq cq ∧ ∀ b, Sq b → base ≤ b ∧ b < w.heap.size ∧ ¬ vv.ownBlock = some b ∧ ¬ vd.ownBlock = some b ∧ ¬ vo.ownBlock = some b
  nvd : ∀ b, vv.ownBlock = some b → ¬ vd.ownBlock = some b
  nvo : ∀ b, vv.ownBlock = some b → ¬ vo.ownBlock = some b
  ndo : ∀ b, vd.ownBlock = some b → ¬ vo.ownBlock = some b

section
variable {w w' : World} {base : Nat} {vv vd vo : Value} {vl D O q : List Int} {aq : Option Addr} {cq : Nat}
theorem num_fr {D : Nat → Prop} {b : Nat} {v : Value} {l : List Int} (h : NumRow w b v l) (hf : Fr D w w') (hD : ∀ g, v.ownBlock = some g → ¬ D g) : NumRow w' b v l := ElRow.frO (f := Value.int .i64) (e := 3) h hf hD
theorem RsAt.below (h : RsAt w base vv vd vo vl D O q aq cq) (hb : Below w.heap.size w w') : RsAt w' base vv vd vo vl D O q aq cq where
  v := ElRow.below (f := Value.int .i64) (e := 3) h.v hb
  d := ElRow.below (f := Value.int .i64) (e := 3) h.d hb
  o := ElRow.below (f := Value.int .i64) (e := 3) h.o hb
  q := by
    obtain ⟨Sq, h1, h2⟩ := h.q
    exact ⟨Sq, h1.below hb, fun b hs => ⟨(h2 b hs).1, Nat.lt_of_lt_of_le (h2 b hs).2.1 hb.size, (h2 b hs).2.2⟩⟩
  nvd := h.nvd
  nvo := h.nvo
  ndo := h.ndo
theorem RsAt.alloc (h : RsAt w base vv vd vo vl D O q aq cq) (ob : Obj) : RsAt (w.alloc ob) base vv vd vo vl D O q aq cq := h.below ((Below.refl _ _).alloc (Nat.le_refl _) ob)
/-- One is told. -/
theorem RsAt.pushO {vo' : Value} {O' : List Int} (h : RsAt w base vv vd vo vl D O q aq cq) (hf : Fr (fun b => vo.ownBlock = some b) w w') (hr : NumRow w' base vo' O') (hn : ∀ b, vo'.ownBlock = some b → vo.ownBlock = some b ∨ w.heap.size ≤ b) : RsAt w' base vv vd vo' vl D O' q aq cq where
  v := num_fr h.v hf (fun g hg => h.nvo g hg)
  d := num_fr h.d hf (fun g hg => h.ndo g hg)
  o := hr
  q := by
    obtain ⟨Sq, h1, h2⟩ := h.q
    refine ⟨Sq, h1.fr hf (fun b hb => (h2 b hb).2.2.2.2), fun b hs => ⟨(h2 b hs).1, Nat.lt_of_lt_of_le (h2 b hs).2.1 hf.size, (h2 b hs).2.2.1, (h2 b hs).2.2.2.1, fun e => ?_⟩⟩
    rcases hn b e with e | e
    · exact (h2 b hs).2.2.2.2 e
    · have := (h2 b hs).2.1; omega
  nvd := h.nvd
  nvo b hb e := by
    rcases hn b e with e | e
    · exact h.nvo b hb e
    · have := (World.ownsRow.lt h.v b hb).2; omega
  ndo b hb e := by
    rcases hn b e with e | e
    · exact h.ndo b hb e
    · have := (World.ownsRow.lt h.d b hb).2; omega
/-- One is done. -/
theorem RsAt.pushD {vd' : Value} {D' : List Int} (h : RsAt w base vv vd vo vl D O q aq cq) (hf : Fr (fun b => vd.ownBlock = some b) w w') (hr : NumRow w' base vd' D') (hn : ∀ b, vd'.ownBlock = some b → vd.ownBlock = some b ∨ w.heap.size ≤ b) : RsAt w' base vv vd' vo vl D' O q aq cq where
  v := num_fr h.v hf (fun g hg => h.nvd g hg)
  d := hr
  o := num_fr h.o hf (fun g hg e => h.ndo g e hg)
  q := by
    obtain ⟨Sq, h1, h2⟩ := h.q
    refine ⟨Sq, h1.fr hf (fun b hb => (h2 b hb).2.2.2.1), fun b hs => ⟨(h2 b hs).1, Nat.lt_of_lt_of_le (h2 b hs).2.1 hf.size, (h2 b hs).2.2.1, fun e => ?_, (h2 b hs).2.2.2.2⟩⟩
    rcases hn b e with e | e
    · exact (h2 b hs).2.2.2.1 e
    · have := (h2 b hs).2.1; omega
  nvd b hb e := by
    rcases hn b e with e | e
    · exact h.nvd b hb e
    · have := (World.ownsRow.lt h.v b hb).2; omega
  nvo := h.nvo
  ndo b hb e := by
    rcases hn b hb with h1 | h1
    · exact h.ndo b h1 e
    · have := (World.ownsRow.lt h.o b e).2; omega
/-- A value is set. -/
theorem RsAt.setV {g n cap : Nat} (h : RsAt w base (.slice (some ⟨g, 0, none⟩) n cap) vd vo vl D O q aq cq) (i : Nat) (x : Int) : RsAt (w.setCell ⟨g, i, none⟩ (.int .i64 x)) base (.slice (some ⟨g, 0, none⟩) n cap) vd vo (vl.set i x) D O q aq cq := by
  have hf : Fr (fun b => b = g) w (w.setCell ⟨g, i, none⟩ (.int .i64 x)) := Fr.set' (D := fun b => b = g) (Fr.of_below (Below.refl _ _)) ⟨g, i, none⟩ rfl _
  have hs : (w.setCell ⟨g, i, none⟩ (.int .i64 x)).heap.size = w.heap.size := by simp [World.setCell]
  refine ⟨h.v.set_ i x, num_fr h.d hf (fun b hb e => h.nvd g rfl (by rw [← e]; exact hb)), num_fr h.o hf (fun b hb e => h.nvo g rfl (by rw [← e]; exact hb)), ?_, h.nvd, h.nvo, h.ndo⟩
  obtain ⟨Sq, h1, h2⟩ := h.q
  exact ⟨Sq, h1.fr hf (fun b hb e => (h2 b hb).2.2.1 (by rw [e]; rfl)), fun b hb => ⟨(h2 b hb).1, by rw [hs]; exact (h2 b hb).2.1, (h2 b hb).2.2⟩⟩
/-- Another queue. -/
theorem RsAt.newQ {vq : Value} {q' : List Int} (h : RsAt w base vv vd vo vl D O q aq cq) (hb : Below w.heap.size w w') (hbase : base ≤ w.heap.size) (hr : NumRow w' w.heap.size vq q') (hi : ∀ x ∈ q', i64ok x) : ∃ aq' cq', vq = .slice aq' q'.length cq' ∧ RsAt w' base vv vd vo vl D O q' aq' cq' := by
  obtain ⟨a, c, rfl, hia⟩ := hr.at hi
  have h2 := h.below hb
  refine ⟨a, c, rfl, h2.v, h2.d, h2.o, ⟨_, hia.lim, fun b hs => ⟨by omega, hs.2, fun e => ?_, fun e => ?_, fun e => ?_⟩⟩, h.nvd, h.nvo, h.ndo⟩
  · have := (World.ownsRow.lt h.v b e).2; omega
  · have := (World.ownsRow.lt h.d b e).2; omega
  · have := (World.ownsRow.lt h.o b e).2; omega
/-- The queue without its first. -/
theorem RsAt.tail {k : Int} {b o : Nat} (h : RsAt w base vv vd vo vl D O (k :: q) (some ⟨b, o, none⟩) cq) : RsAt w base vv vd vo vl D O q (some ⟨b, o + 1, none⟩) (cq - 1) := by
  obtain ⟨Sq, h1, h2⟩ := h.q
  refine ⟨h.v, h.d, h.o, ⟨Sq, ⟨?_, ?_, fun v hv => h1.2.2.1 v (by simp [hv]), ?_⟩, h2⟩, h.nvd, h.nvo, h.ndo⟩
  · have := h1.1; simp at this; omega
  · have := h1.2.1; omega
  · rcases h1.2.2.2 with h3 | ⟨b', o', ha, hS, hc⟩
    · cases h3
    · simp only [Option.some.injEq, Addr.mk.injEq, and_true] at ha
      obtain ⟨rfl, rfl⟩ := ha
      refine .inr ⟨b, o + 1, rfl, hS, fun i hi => ?_⟩
      have := hc (i + 1) (by simp; omega)
      rw [show o + 1 + i = o + (i + 1) by omega]
      simpa using this
theorem RsAt.tail0 {k : Int} {b o : Nat} (h : RsAt w base vv vd vo vl D O (k :: q) (some ⟨b, o, none⟩) cq) (hc : cq - 1 = 0) : RsAt w base vv vd vo vl D O q (some ⟨b, o, none⟩) 0 := by
  obtain ⟨Sq, h1, h2⟩ := h.q
  have h3 := h1.1
  have hq : q = [] := List.length_eq_zero_iff.1 (by simp at h3; omega)
  subst hq
  exact ⟨h.v, h.d, h.o, ⟨Sq, IntsAt.nil (by omega), h2⟩, h.nvd, h.nvo, h.ndo⟩
theorem RsAt.head {k : Int} (h : RsAt w base vv vd vo vl D O (k :: q) aq cq) : ∃ b o, aq = some ⟨b, o, none⟩ ∧ w.cell? ⟨b, o, none⟩ = some (.int .i64 k) ∧ q.length + 1 ≤ cq ∧ cq ≤ 9223372036854775807 := by
  obtain ⟨Sq, h1, h2⟩ := h.q
  rcases h1.2.2.2 with h3 | ⟨b', o', ha, hS, hc⟩
  · cases h3
  · have := hc 0 (by simp)
    have h4 := h1.1
    simp at h4
    exact ⟨b', o', ha, by simpa using this, h4, h1.2.1⟩
end
end Go.Proofs.Ytklmpagpkeffjaa

/- bounds of what BuildAll and CircleOf answer (pure) -/
namespace Go.Proofs.Ytklmpagpkeffjaa

theorem cyc_bd {ch : Int → List Int} {ok : Int → Bool} {P : Int → Prop} (hx : ∀ k j, nxt ch ok k = some j → P j) : ∀ (f : Nat) (U : List Int) (k : Int), (∀ x ∈ U, P x) → P k → (∀ x ∈ cyc ch ok f U k, P x) ∧ (cyc ch ok f U k).length ≤ U.length + f
  | 0, U, k, _, _ => by unfold cyc; simp
  | f + 1, U, k, hU, hk => by
    unfold cyc
    split
    · exact ⟨fun x h => hU x (List.mem_of_mem_drop h), by rw [List.length_drop]; omega⟩
    · split
      · rename_i j hj
        obtain ⟨h1, h2⟩ := cyc_bd hx f (U ++ [k]) j (fun x h => by
          rcases List.mem_append.1 h with h | h
          · exact hU x h
          · rw [List.mem_singleton.1 h]; exact hk) (hx k j hj)
        exact ⟨h1, by rw [List.length_append, List.length_singleton] at h2; omega⟩
      · exact ⟨by simp, by simp⟩

theorem sh_len {s : Sh} (h : s.ok = true) : s.m.length ≤ 10 := by
  unfold Sh.ok at h
  simp only [Bool.and_eq_true, decide_eq_true_eq] at h
  omega

theorem coL_bd (s : Sh) (l : List Int) (key : Int) : (∀ x ∈ coL s l key, 0 ≤ x ∧ x < 10) ∧ (coL s l key).length ≤ 11 := by
  unfold coL
  split
  · rename_i hb
    unfold coB at hb
    rw [Bool.and_eq_true, Bool.and_eq_true, decide_eq_true_eq] at hb
    obtain ⟨⟨hin, hk⟩, _⟩ := hb
    obtain ⟨hok, _, _⟩ := inOk_of hin
    have hn := sh_len hok
    have hg := gr_S hok l
    have hP : ∀ j, okS s l j = false → 0 ≤ j ∧ j < 10 := by
      intro j hj
      have hd : (fun k => !s.mdI k) j = false := by
        cases hd : (fun k => !s.mdI k) j
        · rfl
        · rw [hg.d0ok j hd] at hj; cases hj
      have := hg.inn j hd
      omega
    obtain ⟨h1, h2⟩ := cyc_bd (ch := chS s l) (ok := okS s l) (P := fun j => 0 ≤ j ∧ j < 10) (fun k j hj => hP j (nxt_some hj).2) (s.m.length + 1 - 0) [] key (by simp) (by omega)
    unfold circ
    exact ⟨h1, by simpa using Nat.le_trans h2 (by simp; omega)⟩
  · exact ⟨by simp, by simp⟩

theorem baL_bd (s : Sh) (l : List Int) : (∀ x ∈ baL s l, 0 ≤ x ∧ x ≤ 96) ∧ (baL s l).length ≤ 10 := by
  unfold baL
  split
  · rename_i hb
    unfold baB at hb
    rw [Bool.and_eq_true] at hb
    obtain ⟨hin, _⟩ := hb
    have hn := sh_len (inOk_of hin).1
    unfold baVs
    refine ⟨fun x hx => ?_, by simpa using hn⟩
    obtain ⟨i, _, rfl⟩ := List.mem_map.1 hx
    exact vsS_bd hin _
  · exact ⟨by simp, by simp⟩
end Go.Proofs.Ytklmpagpkeffjaa

/- an order that fits: what is asked of each of its keys; plain words, no program -/
namespace Go.Proofs.Ytklmpagpkeffjaa
open Go.RowKit

/-- What is asked of the key k behind the keys pre. -/
def ofOne (s : Sh) (vs : Int → Int) (pre : List Int) (k : Int) : Bool := s.mdI k && (!decide (k ∈ pre) && ((usesL ((s.tkI k).kys vs)).filter s.mdI).all (fun u => decide (u ∈ pre)))
def ofTo (s : Sh) (vs : Int → Int) (o : List Int) (n : Nat) : Bool := (List.range n).all fun i => ofOne s vs (o.take i) (o.getD i 0)
noncomputable def ofB (s : Sh) (l o : List Int) : Bool := baB s l && ofTo s (vf (baL s l)) o o.length

theorem ofTo_zero (s : Sh) (vs : Int → Int) (o : List Int) : ofTo s vs o 0 = true := rfl
theorem ofTo_succ (s : Sh) (vs : Int → Int) (o : List Int) {k : Nat} (hk : k < o.length) : ofTo s vs o (k + 1) = (ofTo s vs o k && ofOne s vs (o.take k) o[k]) := by
  unfold ofTo
  rw [List.range_succ, List.all_append, List.all_cons, List.all_nil, Bool.and_true, List.getD_eq_getElem?_getD, List.getElem?_eq_getElem hk]
  rfl
theorem ofTo_false {s : Sh} {vs : Int → Int} {o : List Int} {k n : Nat} (h : k < n) (hn : n ≤ o.length) (ho : ofOne s vs (o.take k) (o[k]'(by omega)) = false) : ofTo s vs o n = false := by
  cases hx : ofTo s vs o n
  · rfl
  · unfold ofTo at hx
    rw [List.all_eq_true] at hx
    have := hx k (List.mem_range.2 h)
    rw [List.getD_eq_getElem?_getD, List.getElem?_eq_getElem (by omega)] at this
    simp only [Option.getD_some] at this
    rw [ho] at this
    cases this

theorem ok_of_ba {s : Sh} {l : List Int} (h : baB s l = true) : s.ok = true := by
  unfold baB at h
  rw [Bool.and_eq_true] at h
  exact (inOk_of h.1).1
theorem tkI_ok {s : Sh} {l : List Int} (h : baB s l = true) (k : Int) : ((s.tkI k).ok && vok (baL s l)) = true := by
  obtain ⟨h1, h2⟩ := Sh.tk_fit (ok_of_ba h) k.toNat
  have h3 := baL_bd s l
  rw [Bool.and_eq_true]
  refine ⟨by unfold Sh.tkI; simp [T.ok]; exact ⟨h1, h2⟩, ?_⟩
  unfold vok
  rw [Bool.and_eq_true, decide_eq_true_eq, List.all_eq_true]
  refine ⟨h3.2, fun x hx => ?_⟩
  have := h3.1 x hx
  simp [vin]
  omega
/-- Keys of an order that fits are keys. -/
theorem ofTo_hk {s : Sh} {vs : Int → Int} {o : List Int} (h : ofTo s vs o o.length = true) : hkB s o = true := by
  unfold hkB
  rw [List.all_eq_true]
  intro x hx
  obtain ⟨i, hi, rfl⟩ := List.getElem_of_mem hx
  rw [decide_eq_true_eq]
  refine mdI_bd ?_
  cases hm : s.mdI o[i]
  · have : ofTo s vs o o.length = false := ofTo_false hi (Nat.le_refl _) (by unfold ofOne; rw [hm]; rfl)
    rw [h] at this; cases this
  · rfl
end Go.Proofs.Ytklmpagpkeffjaa

/- spec.l4Keys, spec.OrderFits -/
namespace Go.Proofs.Ytklmpagpkeffjaa
open Go.RowKit

theorem IntsAt.upto {w : World} {S : Nat → Prop} {l : List Int} {a : Option Addr} {c : Nat} (h : IntsAt w S l a c) (i : Nat) : IntsAt w S (l.take i) a c := by
  obtain ⟨h1, h2, h3, h4⟩ := h
  refine ⟨by rw [List.length_take]; omega, h2, fun v hv => h3 v (List.mem_of_mem_take hv), ?_⟩
  rcases h4 with h4 | ⟨b, o, ha, hS, hc⟩
  · exact .inl (by rw [h4]; simp)
  · refine .inr ⟨b, o, ha, hS, fun j hj => ?_⟩
    rw [List.getElem_take]
    exact hc j (by rw [List.length_take] at hj; omega)

/-- They are keys of a sheet. -/
def kyB (s : Sh) (ks : List Int) : Bool := hkB s ks && s.ok

set_option maxRecDepth 100000 in
set_option maxHeartbeats 2000000 in
theorem l4Keys_any (s : Sh) (ks : List Int) (w : World) (S S' : Nat → Prop) (a : Option Addr) (c : Nat) (a' : Option Addr) (c' : Nat) (ak : Option Addr) (ck : Nat) (h : ShAt w S s a c a' c') (hn : nodesL s.t ≤ 1048576) (hks : IntsAt w S' ks ak ck) :
    Calls Try.prog 57 #[.agg #[.slice a s.m.length c, .slice a' s.t.length c'], .slice ak ks.length ck] w fun e w' => e = .returned (.bool (kyB s ks)) ∧ Below w.heap.size w w' := by
  have K0 := Lib.hid (Ks.start (ty := 26) h)
  have HI := Lib.hid (hks.alloc (.cells #[.slice a s.m.length c, .slice a' s.t.length c'] 26))
  have hkl : ks.length ≤ 9223372036854775807 := by have := hks.1; have := hks.2.1; omega
  have hlm : s.m.length ≤ 9223372036854775807 := by have := h.1.1; have := h.1.2.1; omega
  have HN := Lib.hid hn
  obtain ⟨KL, hKL⟩ : ∃ n, n = ks.length := ⟨_, rfl⟩
  have HKL := Lib.hid hKL
  rw [← hKL] at hkl ⊢
  obtain ⟨r, hr⟩ : ∃ r, r = kyB s ks := ⟨_, rfl⟩
  have HR := Lib.hid hr
  rw [← hr]
  clear h hks hKL hr hn
  go_enter Try.func57, Try.ntmps57
  go_wp2_with fail
  go_loopw [5] (fun i wr => ∃ k : Nat, k ≤ KL ∧ i = .int .i64 k ∧ (ks.take k).all (fun k => decide (0 ≤ k ∧ k < s.m.length)) = true ∧ Ks S s a c a' c' 26 w wr ∧ IntsAt wr S' ks ak ck) (fun i _ => KL - (intOf i).toNat)
  case atStart => exact ⟨0, by omega, rfl, by simp, K0.out, HI.out⟩
  case round =>
    obtain ⟨k, hk, rfl, hall, hK, hI⟩ := hrel
    have HA := Lib.hid hall
    have HK := Lib.hid (And.intro hK hI)
    obtain ⟨x0, x1⟩ := hK.box
    clear hall hK hI K0 HI
    by_cases hlt : k < KL
    · have hlt2 : k < ks.length := by have := HKL.out; omega
      obtain ⟨b, o, rfl, hbl, _, hc⟩ := HK.out.2.get (Below.refl _ _) hlt2
      obtain ⟨key, hkey⟩ : ∃ key, key = ks[k] := ⟨_, rfl⟩
      rw [← hkey] at hc
      have HKEY := Lib.hid hkey
      obtain ⟨p, hp⟩ : ∃ p, p = decide (0 ≤ key ∧ key < s.m.length) := ⟨_, rfl⟩
      have hdk : decide ((0 : Int) ≤ key ∧ key ≤ (s.m.length : Int) - 1) = p := by
        rw [hp]
        by_cases h : 0 ≤ key ∧ key < s.m.length
        · rw [decide_eq_true h, decide_eq_true (by omega)]
        · rw [decide_eq_false h, decide_eq_false (by omega)]
      have hwr : IntKind.i64.wrap ((s.m.length : Int) - 1) = (s.m.length : Int) - 1 := IntWalk.i64_in _ ⟨by omega, by omega⟩
      rw [← hwr] at hdk
      have HD := Lib.hid hdk
      have HP := Lib.hid hp
      have HL2 := Lib.hid hlt2
      clear hkey hp hdk hwr
      go_wp2_with fail
      go_region_with (go_at_call 102; refine (in_any _ _ _ _).mono ?_; rw [HD.out]; rintro e w9 ⟨rfl, rfl⟩)
      all_goals
        have K1 := Lib.hid (And.intro (HK.out.1.drewN 1) (HK.out.2.drewN 1))
        cases p
        · go_wp2_with fail
          go_ret
          exact ⟨ret_bool (by rw [HR.out]; unfold kyB hkB; rw [all_fls HL2.out (by rw [← HKEY.out]; exact HP.out.symm)]; rfl), below_drewN HK.out.1.done _⟩
        · go_wp2_with fail
          go_roundw
          case rel => exact ⟨k + 1, by omega, by go_num, by rw [all_tk HL2.out, HA.out, ← HKEY.out, ← HP.out]; rfl, HK.out.1.drewN _, HK.out.2.drewN _⟩
          case measure => simp [intOf]; omega
    · have hall : hkB s ks = true := by
        have := HA.out
        rwa [List.take_of_length_le (by have := HKL.out; omega)] at this
      have hrk : s.ok = r := by rw [HR.out]; unfold kyB; rw [hall]; rfl
      have HALL := Lib.hid hrk
      clear hall hrk
      go_wp2_with fail
      refine (specSheetOk_any s _ S a c a' c' HK.out.1.2 HN.out).mono ?_
      rintro e w1 ⟨rfl, hb⟩
      rw [HALL.out]
      have K1 := Lib.hid (HK.out.1.step hb)
      clear hb x0 x1
      go_wp2_with fail
      go_ret
      exact ⟨rfl, K1.out.done⟩

set_option maxRecDepth 100000 in
set_option maxHeartbeats 4000000 in
theorem specFits_any (s : Sh) (l o : List Int) (w : World) (S0 S1 S2 : Nat → Prop) (a : Option Addr) (c : Nat) (a' : Option Addr) (c' : Nat) (ai : Option Addr) (ci : Nat) (ao : Option Addr) (co : Nat) (h0 : ShAt w S0 s a c a' c') (hn : nodesL s.t ≤ 1048576) (hl : IntsAt w S1 l ai ci) (ho : IntsAt w S2 o ao co) :
    Calls Try.prog 31 #[.agg #[.slice a s.m.length c, .slice a' s.t.length c'], .slice ai l.length ci, .slice ao o.length co] w fun e w' => e = .returned (.bool (ofB s l o)) ∧ Below w.heap.size w w' := by
  have K0 := Lib.hid (Ks.start (ty := 26) h0)
  have L0 := Lib.hid (hl.alloc (.cells #[.slice a s.m.length c, .slice a' s.t.length c'] 26))
  have O0 := Lib.hid (ho.alloc (.cells #[.slice a s.m.length c, .slice a' s.t.length c'] 26))
  have hol : o.length ≤ 9223372036854775807 := by have := ho.1; have := ho.2.1; omega
  have hoc : o.length ≤ co ∧ co ≤ 9223372036854775807 := ⟨ho.1, ho.2.1⟩
  have HN := Lib.hid hn
  obtain ⟨OL, hOL⟩ : ∃ n, n = o.length := ⟨_, rfl⟩
  have HOL := Lib.hid hOL
  rw [← hOL] at hol hoc ⊢
  obtain ⟨r, hr⟩ : ∃ r, r = ofB s l o := ⟨_, rfl⟩
  have HR := Lib.hid hr
  rw [← hr]
  clear h0 hl ho hOL hr hn
  obtain ⟨x0, x1⟩ := K0.out.box
  cases hba : baB s l
  · have HB := Lib.hid hba
    clear hba
    go_enter Try.func31, Try.ntmps31
    go_wp2_with fail
    refine (specAll_any s l _ S0 _ a c a' c' ai ci K0.out.2 HN.out L0.out).mono ?_
    rintro e w1 ⟨hb, v, rfl, _⟩
    rw [HB.out]
    have K1 := Lib.hid (K0.out.step hb)
    clear hb x0 x1
    go_wp2_with fail
    go_ret
    exact ⟨ret_bool (by rw [HR.out]; unfold ofB; rw [HB.out]; rfl), K1.out.done⟩
  · have HB := Lib.hid hba
    have hrr : r = ofTo s (vf (baL s l)) o o.length := by rw [HR.out]; unfold ofB; rw [hba]; rfl
    have HRR := Lib.hid hrr
    have hkk : kyB s o = hkB s o := by unfold kyB; rw [ok_of_ba hba, Bool.and_true]
    have HKK := Lib.hid hkk
    clear hba hrr hkk
    go_enter Try.func31, Try.ntmps31
    go_wp2_with fail
    refine (specAll_any s l _ S0 _ a c a' c' ai ci K0.out.2 HN.out L0.out).mono ?_
    rintro e w1 ⟨hb, v, rfl, hrow⟩
    rw [HB.out]
    obtain ⟨av, cv, rfl, hia⟩ := hrow.at (fun x hx => by have := (baL_bd s l).1 x hx; unfold i64ok; omega)
    have K1 := Lib.hid (K0.out.step hb)
    have O1 := Lib.hid (O0.out.below hb)
    have V1 := Lib.hid hia
    clear hb hrow hia x0 x1 K0 L0 O0
    obtain ⟨x0, x1⟩ := K1.out.box
    go_wp2_with fail
    have hkc := l4Keys_any s o w1 _ _ a c a' c' ao co K1.out.2 HN.out O1.out
    rw [← HOL.out] at hkc
    refine hkc.mono ?_
    clear hkc
    rintro e w2 ⟨rfl, hb⟩
    rw [HKK.out]
    have K2 := Lib.hid (K1.out.step hb)
    have O2 := Lib.hid (O1.out.below hb)
    have V2 := Lib.hid (V1.out.below hb)
    clear hb x0 x1 K1 O1 V1
    cases hkb : hkB s o
    · have hrf : r = false := by
        rw [HRR.out]
        cases hx : ofTo s (vf (baL s l)) o o.length
        · rfl
        · rw [ofTo_hk hx] at hkb; cases hkb
      have HRF := Lib.hid hrf
      clear hkb hrf
      go_wp2_with fail
      go_ret
      exact ⟨ret_bool HRF.out.symm, K2.out.done⟩
    · have HKB := Lib.hid hkb
      clear hkb
      go_wp2_with fail
      go_loopw [9] (fun i wr => ∃ k : Nat, k ≤ OL ∧ i = .int .i64 k ∧ ofTo s (vf (baL s l)) o k = true ∧ Ks S0 s a c a' c' 26 w wr ∧ IntsAt wr S2 o ao co ∧ IntsAt wr (fun b => w.heap.size + 1 ≤ b) (baL s l) av cv) (fun i _ => OL - (intOf i).toNat)
      case atStart => exact ⟨0, by omega, rfl, ofTo_zero _ _ _, K2.out, O2.out, V2.out.weaken (fun b hb => by simpa using hb)⟩
      case round =>
        obtain ⟨k, hk, rfl, hall, hK, hO, hV⟩ := hrel
        have H3 := Lib.hid (And.intro hK (And.intro hO hV))
        have HA := Lib.hid hall
        obtain ⟨x0, x1⟩ := hK.box
        clear hall hK hO hV K2 O2 V2
        by_cases hlt : k < OL
        · have hlt2 : k < o.length := by have := HOL.out; omega
          obtain ⟨b, ob, rfl, hbl, _, hc⟩ := H3.out.2.1.get (Below.refl _ _) hlt2
          obtain ⟨key, hkey⟩ : ∃ key, key = o[k] := ⟨_, rfl⟩
          have hkr : 0 ≤ key ∧ key < s.m.length := by
            have h := HKB.out
            unfold hkB at h
            rw [List.all_eq_true] at h
            have h := h o[k] (List.getElem_mem _)
            rw [decide_eq_true_eq] at h
            rw [hkey]; exact h
          obtain ⟨kn, rfl⟩ : ∃ kn : Nat, key = kn := ⟨key.toNat, by omega⟩
          have hkn : kn < s.m.length := by omega
          rw [← hkey] at hc
          have HKEY := Lib.hid hkey
          have HL2 := Lib.hid hlt2
          have HSUC := Lib.hid (ofTo_succ s (vf (baL s l)) o hlt2)
          have HNO := Lib.hid (show ofOne s (vf (baL s l)) (o.take k) (kn : Int) = false → r = false from fun h => by
            rw [HRR.out]
            exact ofTo_false hlt2 (Nat.le_refl _) (by rw [← hkey]; exact h))
          have HTL := Lib.hid (show s.t.length = s.m.length from (Sh.ok_iff.1 (ok_of_ba HB.out)).2.1)
          have h10 : s.m.length ≤ 10 := (Sh.ok_iff.1 (ok_of_ba HB.out)).1
          clear hkey hkr
          obtain ⟨bm, om, ha, hbml, hcm⟩ := md_cell H3.out.1.2 hkn
          have HAA := Lib.hid ha
          clear ha
          obtain ⟨mk, hmk⟩ : ∃ mk, mk = s.mdI (kn : Int) := ⟨_, rfl⟩
          rw [← hmk] at hcm
          have HMK := Lib.hid hmk
          clear hmk
          obtain rfl := HAA.out
          have htake : (o.take k).length = k := by rw [List.length_take]; omega
          have HTK := Lib.hid htake
          clear htake
          cases mk
          · go_wp2_with fail
            go_ret
            exact ⟨ret_bool (HNO.out (by unfold ofOne; rw [← HMK.out]; rfl)).symm, H3.out.1.done⟩
          · obtain ⟨p, hp⟩ : ∃ p, p = decide ((kn : Int) ∈ o.take k) := ⟨_, rfl⟩
            have HP := Lib.hid hp
            clear hp
            have hhas : ∀ (n : Int) (w' : World), IntsAt w' S2 o (some ⟨b, ob, none⟩) co → Calls Try.prog 59 #[.slice (some ⟨b, ob, none⟩) k co, .int .i64 n] w' fun e w'' => e = .returned (.bool (decide (n ∈ o.take k))) ∧ w' = w'' := fun n w' h => by
              have h2 := has_any w' S2 (o.take k) (some ⟨b, ob, none⟩) co n (h.upto k)
              rw [HTK.out] at h2
              exact h2
            have HHAS := Lib.hid hhas
            clear hhas
            go_wp2_with fail
            refine (HHAS.out (kn : Int) wr H3.out.2.1).mono ?_
            rintro e w4 ⟨rfl, rfl⟩
            rw [← HP.out]
            cases p
            · have hkt : kn < s.t.length := by have := HTL.out; omega
              obtain ⟨b', o', a2, c2, rfl, hbl', hSb', e0, e1, e2, hat, _, _⟩ := H3.out.1.2.2.elem (Below.refl _ _) hkt
              have htk : s.t[kn] = s.tkI (kn : Int) := by unfold Sh.tkI; rw [Int.toNat_natCast]; exact (getD_len hkt).symm
              rw [htk] at hat e0 e1 e2
              have HAT := Lib.hid hat
              clear hat htk
              have hvk := tkI_ok HB.out (kn : Int)
              rw [Bool.and_eq_true] at hvk
              have hfn : (s.tkI (kn : Int)).fit = true ∧ (s.tkI (kn : Int)).nodes ≤ 15 := by simpa [T.ok] using hvk.1
              have HVK := Lib.hid (And.intro hvk.2 hfn)
              have hks := (kys_ok (tkI_ok HB.out (kn : Int)))
              obtain ⟨ks, hkss⟩ : ∃ ks, ks = (s.tkI (kn : Int)).kys (vf (baL s l)) := ⟨_, rfl⟩
              rw [← hkss] at hks
              have HKS := Lib.hid (And.intro hkss hks)
              clear hvk hfn hkss hks
              go_wp2_with fail
              refine (run_any (baL s l) HVK.out.1 (s.tkI (kn : Int)) HVK.out.2.1 (by have := HVK.out.2.2; omega) wr _ _ a2 av c2 cv HAT.out H3.out.2.2).mono ?_
              rintro e w5 ⟨vo, rfl, hrow, hb⟩
              rw [← HKS.out.1] at hrow
              obtain ⟨af, cf, rfl, hfe⟩ := hrow.at
              have H5 := Lib.hid (And.intro (H3.out.1.step hb) (And.intro (H3.out.2.1.below hb) (H3.out.2.2.below hb)))
              have HF := Lib.hid hfe
              clear hb hrow hfe x0 x1 e0 e1 e2 hc hcm HAT
              go_wp2_with fail
              refine (uses_any (vf (baL s l)) w5 _ ks af cf HF.out HKS.out.2.1 (by have := HKS.out.2.2; omega)).mono ?_
              rintro e w6 ⟨v, rfl, hrow, hb⟩
              obtain ⟨us, hus⟩ : ∃ us, us = usesL ks := ⟨_, rfl⟩
              rw [← hus] at hrow
              have hul : us.length ≤ 15 := by
                rw [hus]
                have := usesL_len ks
                have := HKS.out.2.2
                omega
              have hub : ∀ x ∈ us, 0 ≤ x ∧ x ≤ 9 := fun x hx => by
                rw [hus] at hx
                exact HKS.out.2.1 x (usesL_mem.1 hx)
              obtain ⟨au, cu, rfl, hiu⟩ := hrow.at (fun x hx => by have := hub x hx; unfold i64ok; omega)
              have hone : ofOne s (vf (baL s l)) (o.take k) (kn : Int) = (us.filter s.mdI).all (fun u => decide (u ∈ o.take k)) := by
                unfold ofOne
                rw [← HMK.out, ← HP.out, ← HKS.out.1, ← hus]
                rfl
              have HONE := Lib.hid hone
              have HUB := Lib.hid hub
              have H6 := Lib.hid (And.intro (H5.out.1.step hb) (And.intro (H5.out.2.1.below hb) (And.intro (H5.out.2.2.below hb) hiu)))
              obtain ⟨UL, hUL⟩ : ∃ n, n = us.length := ⟨_, rfl⟩
              have HUL := Lib.hid hUL
              rw [← hUL] at hul ⊢
              clear hb hrow hus hub hiu hone hUL H5 H3 HF
              go_wp2_with fail
              go_loopw [14] (fun i wq => ∃ q : Nat, q ≤ UL ∧ i = .int .i64 q ∧ (us.take q).all (fun u => !s.mdI u || decide (u ∈ o.take k)) = true ∧ Ks S0 s (some ⟨bm, om, none⟩) c (some ⟨b', o', none⟩) c' 26 w wq ∧ IntsAt wq S2 o (some ⟨b, ob, none⟩) co ∧ IntsAt wq (fun b => w.heap.size + 1 ≤ b) (baL s l) av cv ∧ IntsAt wq (fun b => w5.heap.size ≤ b) us au cu) (fun i _ => UL - (intOf i).toNat)
              case atStart => exact ⟨0, by omega, rfl, by simp, H6.out.1, H6.out.2.1, H6.out.2.2.1, H6.out.2.2.2⟩
              case round =>
                obtain ⟨q, hq, rfl, hqa, hK, hO, hV, hU⟩ := hrel
                have H7 := Lib.hid (And.intro hK (And.intro hO (And.intro hV hU)))
                have HQA := Lib.hid hqa
                obtain ⟨x0, x1⟩ := hK.box
                clear hqa hK hO hV hU H6
                by_cases hlq : q < UL
                · have hlq2 : q < us.length := by have := HUL.out; omega
                  obtain ⟨bu, ou, hau, hbul, _, hcu⟩ := H7.out.2.2.2.get (Below.refl _ _) hlq2
                  have HAU := Lib.hid hau
                  clear hau
                  obtain rfl := HAU.out
                  have hxb := HUB.out us[q] (List.getElem_mem _)
                  obtain ⟨x, hx⟩ : ∃ x : Nat, us[q] = (x : Int) := ⟨us[q].toNat, by omega⟩
                  rw [hx] at hcu hxb
                  have HX := Lib.hid hx
                  have HQS := Lib.hid (all_tk (p := fun u => !s.mdI u || decide (u ∈ o.take k)) hlq2)
                  clear hx
                  cases hxm : decide ((x : Int) < (s.m.length : Int))
                  · have hmx : s.mdI (x : Int) = false := by
                      cases hy : s.mdI (x : Int)
                      · rfl
                      · have := mdI_bd hy
                        rw [decide_eq_true this.2] at hxm; cases hxm
                    have hqa : (us.take (q + 1)).all (fun u => !s.mdI u || decide (u ∈ o.take k)) = true := by
                      rw [HQS.out, HQA.out, HX.out, hmx]; rfl
                    have HQ2 := Lib.hid hqa
                    have hx3 : ¬ x < s.m.length := by rw [decide_eq_false_iff_not] at hxm; omega
                    have hx4 : decide (x < s.m.length) = false := decide_eq_false hx3
                    clear hmx hqa
                    go_wp2_with fail
                    go_quiet (fail)
                    revert nq
                    intro n1
                    go_wp2_with fail
                    go_roundw
                    case rel => exact ⟨q + 1, by omega, by go_num, HQ2.out, H7.out.1.drewN _, H7.out.2.1.drewN _, H7.out.2.2.1.drewN _, H7.out.2.2.2.drewN _⟩
                    case measure => simp [intOf]; omega
                  · have hxm2 : x < s.m.length := by
                      rw [decide_eq_true_eq] at hxm; omega
                    have hx4 : decide (x < s.m.length) = true := decide_eq_true hxm2
                    have hkc : k ≤ co := by omega
                    have hkci : (k : Int) ≤ (co : Int) := by omega
                    obtain ⟨bx, ox, hax, hbxl, hcx⟩ := md_cell H7.out.1.2 hxm2
                    obtain ⟨rfl, rfl⟩ : bm = bx ∧ om = ox := by injection hax with hax; injection hax with h1 h2; exact ⟨h1, h2⟩
                    clear hax
                    obtain ⟨mx, hmx⟩ : ∃ mx, mx = s.mdI (x : Int) := ⟨_, rfl⟩
                    rw [← hmx] at hcx
                    have HMX := Lib.hid hmx
                    clear hmx
                    cases mx
                    · have hqa : (us.take (q + 1)).all (fun u => !s.mdI u || decide (u ∈ o.take k)) = true := by
                        rw [HQS.out, HQA.out, HX.out, ← HMX.out]; rfl
                      have HQ2 := Lib.hid hqa
                      clear hqa
                      go_wp2_with fail
                      go_quiet (fail)
                      revert nq
                      intro n1
                      go_wp2_with fail
                      go_roundw
                      case rel => exact ⟨q + 1, by omega, by go_num, HQ2.out, H7.out.1.drewN _, H7.out.2.1.drewN _, H7.out.2.2.1.drewN _, H7.out.2.2.2.drewN _⟩
                      case measure => simp [intOf]; omega
                    · obtain ⟨p2, hp2⟩ : ∃ p2, p2 = decide ((x : Int) ∈ o.take k) := ⟨_, rfl⟩
                      have HP2 := Lib.hid hp2
                      clear hp2
                      have hq : ∀ n, Calls Try.prog 59 #[.slice (some ⟨b, ob, none⟩) k co, .int .i64 (x : Int)] (wr.drewN n) fun e w' => e = .returned (.bool p2) ∧ w' = wr.drewN n := fun n => by
                        rw [HP2.out]
                        exact (HHAS.out (x : Int) _ (H7.out.2.1.drewN n)).mono fun e w' h => ⟨h.1, h.2.symm⟩
                      have HQQ := Lib.hid hq
                      clear hq
                      cases p2
                      · go_wp2_with fail
                        go_quiet ((go_at_call 59; exact Calls.quiet_of_same (HQQ.out _)))
                        revert nq
                        intro n1
                        go_wp2_with fail
                        go_ret
                        have hf : ofOne s (vf (baL s l)) (o.take k) (kn : Int) = false := by
                          rw [HONE.out]
                          cases hy : (us.filter s.mdI).all (fun u => decide (u ∈ o.take k))
                          · rfl
                          · rw [List.all_eq_true] at hy
                            have := hy (x : Int) (List.mem_filter.2 ⟨by rw [← HX.out]; exact List.getElem_mem _, HMX.out.symm⟩)
                            rw [← HP2.out] at this
                            cases this
                        exact ⟨ret_bool (HNO.out hf).symm, below_drewN H7.out.1.done _⟩
                      · have hqa : (us.take (q + 1)).all (fun u => !s.mdI u || decide (u ∈ o.take k)) = true := by
                          rw [HQS.out, HQA.out, HX.out, ← HMX.out, ← HP2.out]; rfl
                        have HQ2 := Lib.hid hqa
                        clear hqa
                        go_wp2_with fail
                        go_quiet ((go_at_call 59; exact Calls.quiet_of_same (HQQ.out _)))
                        revert nq
                        intro n1
                        go_wp2_with fail
                        go_roundw
                        case rel => exact ⟨q + 1, by omega, by go_num, HQ2.out, H7.out.1.drewN _, H7.out.2.1.drewN _, H7.out.2.2.1.drewN _, H7.out.2.2.2.drewN _⟩
                        case measure => simp [intOf]; omega
                · have hall : ofTo s (vf (baL s l)) o (k + 1) = true := by
                    have h := HQA.out
                    rw [List.take_of_length_le (by have := HUL.out; omega)] at h
                    rw [HSUC.out, HA.out, ← HKEY.out, HONE.out, Bool.true_and, List.all_eq_true]
                    intro u hu
                    rw [List.mem_filter] at hu
                    rw [List.all_eq_true] at h
                    have := h u hu.1
                    rw [hu.2] at this
                    simpa using this
                  have HALL := Lib.hid hall
                  clear hall
                  go_wp2_with fail
                  go_roundw
                  case rel => exact ⟨k + 1, by omega, by go_num, HALL.out, H7.out.1, H7.out.2.1, H7.out.2.2.1⟩
                  case measure => simp [intOf]; omega
            · go_wp2_with fail
              go_ret
              exact ⟨ret_bool (HNO.out (by unfold ofOne; rw [← HMK.out, ← HP.out]; rfl)).symm, H3.out.1.done⟩
        · have hall : r = true := by
            have := HA.out
            rw [HRR.out, ← HOL.out]
            obtain rfl : k = OL := by omega
            exact this
          have HALL := Lib.hid hall
          clear hall
          go_wp2_with fail
          go_ret
          exact ⟨ret_bool HALL.out.symm, H3.out.1.done⟩
end Go.Proofs.Ytklmpagpkeffjaa

/- spec.OrderRestart -/
namespace Go.Proofs.Ytklmpagpkeffjaa
open Go.RowKit

theorem num_blk {w : World} {base g n c : Nat} {l : List Int} (h : NumRow w base (.slice (some ⟨g, 0, none⟩) n c) l) : ∃ cs, Blk w g 3 cs := by
  obtain ⟨_, ⟨hx, _⟩ | ⟨gb, cap', cur, hx, _, hh, _⟩⟩ := h
  · cases hx
  · simp only [Value.slice.injEq, Option.some.injEq, Addr.mk.injEq, and_true] at hx
    obtain ⟨rfl, _, _⟩ := hx
    exact ⟨cur, hh⟩
theorem vf_set {vl : List Int} {k : Nat} (hk : k < vl.length) (v x : Int) (h0 : 0 ≤ x) : vf (vl.set k v) x = if x = k then v else vf vl x := by
  unfold vf
  rw [List.length_set]
  by_cases hx : x < vl.length
  · rw [if_pos hx, if_pos hx, List.getD_eq_getElem?_getD, List.getD_eq_getElem?_getD, List.getElem?_set]
    by_cases he : x = k
    · subst he
      simp [hk]
    · rw [if_neg (by omega), if_neg he]
  · rw [if_neg hx, if_neg hx, if_neg (by omega)]

/-- The values, as far as keys are done. -/
def ValsOk (s : Sh) (l vl D : List Int) : Prop := vl.length = l.length ∧ ∀ x, 0 ≤ x → vf vl x = if dnS s D x = true then vsS s l x else vf l x

set_option maxRecDepth 100000 in
set_option maxHeartbeats 2000000 in
theorem specRestart_any (s : Sh) (l ks : List Int) (w : World) (S0 S1 S2 : Nat → Prop) (a : Option Addr) (c : Nat) (a' : Option Addr) (c' : Nat) (ai : Option Addr) (ci : Nat) (ak : Option Addr) (ck : Nat) (h0 : ShAt w S0 s a c a' c') (hn : nodesL s.t ≤ 1048576) (hl : IntsAt w S1 l ai ci) (hk0 : IntsAt w S2 ks ak ck) (hkl : ks.length ≤ 1048576) :
    Calls Try.prog 28 #[.agg #[.slice a s.m.length c, .slice a' s.t.length c'], .slice ai l.length ci, .slice ak ks.length ck] w (OrP (rsB s l ks) (rsL s l ks) w) := by
  have K0 := Lib.hid ((Ks.start (ty := 26) h0.lim).alloc (.cells #[] 3))
  have L0 := Lib.hid ((hl.alloc (.cells #[.slice a s.m.length c, .slice a' s.t.length c'] 26)).alloc (.cells #[] 3))
  have Q0 := Lib.hid ((hk0.lim.alloc (.cells #[.slice a s.m.length c, .slice a' s.t.length c'] 26)).alloc (.cells #[] 3))
  have ho0 := rowN_new (w.alloc (.cells #[.slice a s.m.length c, .slice a' s.t.length c'] 26))
  simp only [World.size_alloc] at ho0
  have HO0 := Lib.hid ho0
  have HNN := Lib.hid hn
  obtain ⟨KL, hKL⟩ : ∃ n, n = ks.length := ⟨_, rfl⟩
  have HKL := Lib.hid hKL
  rw [← hKL] at hkl ⊢
  obtain ⟨LL, hLL⟩ : ∃ n, n = l.length := ⟨_, rfl⟩
  have HLL := Lib.hid hLL
  rw [← hLL]
  obtain ⟨b, hb⟩ : ∃ b, b = rsB s l ks := ⟨_, rfl⟩
  obtain ⟨L, hL⟩ : ∃ L, L = rsL s l ks := ⟨_, rfl⟩
  have HNO := Lib.hid (show ∀ (w' : World) (v : Value), rsB s l ks = false → Below w.heap.size w w' → NumRow w' w.heap.size v [] → OrP b L w (.returned (.tuple #[v, .bool false])) w' from fun w' v h1 h2 h3 => by rw [hb, hL]; exact OrP.rs_no h1 h2 h3)
  have HYES := Lib.hid (show ∀ (w' : World) (v : Value) (o : List Int) (m : Nat), rsB s l ks = true → Ends emR (chS s l) (d0S s) ks o m → Below w.heap.size w w' → NumRow w' w.heap.size v o → OrP b L w (.returned (.tuple #[v, .bool true])) w' from fun w' v o m h1 h2 h3 h4 => by rw [hb, hL]; exact OrP.rs_yes h1 h2 h3 h4)
  rw [← hb, ← hL]
  clear h0 hl hk0 hKL hLL hb hL ho0 hn
  obtain ⟨x0, x1⟩ := K0.out.box
  cases hin : inOk s l
  · have HI := Lib.hid hin
    clear hin
    go_enter Try.func28, Try.ntmps28
    go_wp2_with fail
    have hc := specInputs_any s l _ _ _ a c a' c' ai ci K0.out.2 HNN.out L0.out
    rw [← HLL.out] at hc
    refine hc.mono ?_
    clear hc
    rintro e w1 ⟨rfl, hb⟩
    rw [HI.out]
    have K1 := Lib.hid (K0.out.step hb)
    have O1 := Lib.hid (ElRow.below (f := Value.int .i64) (e := 3) HO0.out hb)
    clear hb x0 x1
    go_wp2_with fail
    go_ret2
    exact HNO.out _ _ (by unfold rsB; rw [HI.out]; rfl) K1.out.done (ownsRow_low O1.out (by omega))
  cases hkb : kyB s ks
  · have HI := Lib.hid hin
    have HK := Lib.hid hkb
    clear hin hkb
    go_enter Try.func28, Try.ntmps28
    go_wp2_with fail
    have hc := specInputs_any s l _ _ _ a c a' c' ai ci K0.out.2 HNN.out L0.out
    rw [← HLL.out] at hc
    refine hc.mono ?_
    clear hc
    rintro e w1 ⟨rfl, hb⟩
    rw [HI.out]
    have K1 := Lib.hid (K0.out.step hb)
    have Q1 := Lib.hid (Q0.out.below hb)
    have O1 := Lib.hid (ElRow.below (f := Value.int .i64) (e := 3) HO0.out hb)
    clear hb x0 x1
    obtain ⟨x0, x1⟩ := K1.out.box
    go_wp2_with fail
    have hc := l4Keys_any s ks w1 _ _ a c a' c' ak ck K1.out.2 HNN.out Q1.out
    rw [← HKL.out] at hc
    refine hc.mono ?_
    clear hc
    rintro e w2 ⟨rfl, hb⟩
    rw [HK.out]
    have K2 := Lib.hid (K1.out.step hb)
    have O2 := Lib.hid (ElRow.below (f := Value.int .i64) (e := 3) O1.out hb)
    clear hb x0 x1
    go_wp2_with fail
    go_ret2
    have hno : hkB s ks = false := by
      have h := HK.out
      unfold kyB at h
      rw [(inOk_of HI.out).1, Bool.and_true] at h
      exact h
    exact HNO.out _ _ (by unfold rsB; rw [hno]; simp) K2.out.done (ownsRow_low O2.out (by omega))
  have hhk : hkB s ks = true := by
    unfold kyB at hkb
    rw [Bool.and_eq_true] at hkb
    exact hkb.1
  cases hsf : safeB s
  · have HI := Lib.hid hin
    have HK := Lib.hid hkb
    have HSF := Lib.hid hsf
    clear hin hkb hsf hhk
    go_enter Try.func28, Try.ntmps28
    go_wp2_with fail
    have hc := specInputs_any s l _ _ _ a c a' c' ai ci K0.out.2 HNN.out L0.out
    rw [← HLL.out] at hc
    refine hc.mono ?_
    clear hc
    rintro e w1 ⟨rfl, hb⟩
    rw [HI.out]
    have K1 := Lib.hid (K0.out.step hb)
    have Q1 := Lib.hid (Q0.out.below hb)
    have O1 := Lib.hid (ElRow.below (f := Value.int .i64) (e := 3) HO0.out hb)
    clear hb x0 x1
    obtain ⟨x0, x1⟩ := K1.out.box
    go_wp2_with fail
    have hc := l4Keys_any s ks w1 _ _ a c a' c' ak ck K1.out.2 HNN.out Q1.out
    rw [← HKL.out] at hc
    refine hc.mono ?_
    clear hc
    rintro e w2 ⟨rfl, hb⟩
    rw [HK.out]
    have K2 := Lib.hid (K1.out.step hb)
    have O2 := Lib.hid (ElRow.below (f := Value.int .i64) (e := 3) O1.out hb)
    clear hb x0 x1
    obtain ⟨x0, x1⟩ := K2.out.box
    go_wp2_with fail
    refine (specSafe_any s w2 _ a c a' c' K2.out.2 HNN.out).mono ?_
    rintro e w3 ⟨rfl, hb⟩
    rw [HSF.out]
    have K3 := Lib.hid (K2.out.step hb)
    have O3 := Lib.hid (ElRow.below (f := Value.int .i64) (e := 3) O2.out hb)
    clear hb x0 x1
    go_wp2_with fail
    go_ret2
    exact HNO.out _ _ (by unfold rsB; rw [HSF.out]; simp) K3.out.done (ownsRow_low O3.out (by omega))
  have hok := (inOk_of hin).1
  have h10 : s.m.length ≤ 10 := (Sh.ok_iff.1 hok).1
  have HLM := Lib.hid (show LL = s.m.length by rw [HLL.out]; exact (inOk_of hin).2.1)
  have hll10 : LL ≤ 10 := by have := HLM.out; omega
  have hoks : ∀ x, okS s l x = true := fun x => safe_oks hin hsf x
  obtain ⟨O, M, hends, hcnt⟩ := ends_all (em := emR) (gr_S hok l) emR_cnt ks (fun x _ => hoks x) (d0S s) (fun _ h => h) (fun x _ => hoks x)
  have hOb := (ends_bd hok hcnt).2
  have hyes : rsB s l ks = true := by unfold rsB; rw [hin, hhk, hsf]; rfl
  have HY := Lib.hid (And.intro hyes hends)
  have HI := Lib.hid hin
  have HK := Lib.hid hkb
  have HHK := Lib.hid hhk
  have HSF := Lib.hid hsf
  have HOK := Lib.hid hoks
  have HSO := Lib.hid hok
  clear hin hkb hhk hsf hok hoks hends hcnt hyes
  go_enter Try.func28, Try.ntmps28
  go_wp2_with fail
  have hc := specInputs_any s l _ _ _ a c a' c' ai ci K0.out.2 HNN.out L0.out
  rw [← HLL.out] at hc
  refine hc.mono ?_
  clear hc
  rintro e w1 ⟨rfl, hb⟩
  rw [HI.out]
  have K1 := Lib.hid (K0.out.step hb)
  have L1 := Lib.hid (L0.out.below hb)
  have Q1 := Lib.hid (Q0.out.below hb)
  have O1 := Lib.hid (ElRow.below (f := Value.int .i64) (e := 3) HO0.out hb)
  clear hb x0 x1 K0 L0 Q0 HO0
  obtain ⟨x0, x1⟩ := K1.out.box
  go_wp2_with fail
  have hc := l4Keys_any s ks w1 _ _ a c a' c' ak ck K1.out.2 HNN.out Q1.out
  rw [← HKL.out] at hc
  refine hc.mono ?_
  clear hc
  rintro e w2 ⟨rfl, hb⟩
  rw [HK.out]
  have K2 := Lib.hid (K1.out.step hb)
  have L2 := Lib.hid (L1.out.below hb)
  have Q2 := Lib.hid (Q1.out.below hb)
  have O2 := Lib.hid (ElRow.below (f := Value.int .i64) (e := 3) O1.out hb)
  clear hb x0 x1 K1 L1 Q1 O1
  obtain ⟨x0, x1⟩ := K2.out.box
  go_wp2_with fail
  refine (specSafe_any s w2 _ a c a' c' K2.out.2 HNN.out).mono ?_
  rintro e w3 ⟨rfl, hb⟩
  rw [HSF.out]
  have K3 := Lib.hid (K2.out.step hb)
  have L3 := Lib.hid (L2.out.below hb)
  have Q3 := Lib.hid (Q2.out.below hb)
  have O3 := Lib.hid (ElRow.below (f := Value.int .i64) (e := 3) O2.out hb)
  have hs3 := (K2.out.step hb).size
  clear hb x0 x1 K2 L2 Q2 O2
  go_wp2_with (at_builtin; refine wpList_append_ints _ rfl (.tmp 33) (.tmp 34) rfl w3.heap.size _ [] rfl (rowN_new w3) _ l LL ai ci HLL.out rfl (L3.out.alloc _) ?d1 ?d2 ?_)
  case d1 => rw [← HLL.out]; simp; omega
  case d2 => simp
  intro vv w4 hr4 hgr4 hn4
  have hB34 : Below w3.heap.size w3 w4 := ((Below.refl w3.heap.size w3).alloc (Nat.le_refl _) (.cells #[] 3)).trans (below_grown hgr4 (by simp) (by intro k hk; simp [Value.ownBlock] at hk; omega))
  obtain ⟨av, cv, rfl, _⟩ := ElRow.at (f := Value.int .i64) (e := 3) hr4
  have K4 := Lib.hid (K3.out.step hB34)
  have Q4 := Lib.hid (Q3.out.below hB34)
  have O4 := Lib.hid (ElRow.below (f := Value.int .i64) (e := 3) O3.out hB34)
  have V4 := Lib.hid hr4
  have HO3L := Lib.hid (World.ownsRow.lt O3.out)
  have hs4 := hB34.size
  have hd4 := rowN_new w4
  have hq4 := rowN_new (w4.alloc (.cells #[] 3))
  simp only [World.size_alloc] at hq4
  have HD4 := Lib.hid hd4
  have HQ4 := Lib.hid hq4
  clear hr4 hgr4 hn4 hB34 hd4 hq4 K3 L3 Q3 O3
  rw [← HLL.out]
  go_wp2_with (at_builtin; refine wpList_append_ints _ rfl (.tmp 37) (.tmp 38) rfl (w4.heap.size + 1) _ [] rfl HQ4.out _ ks KL ak ck HKL.out rfl ((Q4.out.alloc _).alloc _) ?d3 ?d4 ?_)
  case d3 => rw [← HKL.out]; simp; omega
  case d4 => simp
  intro vq w5 hr5 hgr5 hn5
  have hB45 : Below (w4.heap.size + 1) (w4.alloc (.cells #[] 3)) w5 := ((Below.refl _ _).alloc (by simp) (.cells #[] 3)).trans (below_grown hgr5 (by simp) (by intro k hk; simp [Value.ownBlock] at hk; omega))
  have hB5 : Below w4.heap.size w4 w5 := ((Below.refl w4.heap.size w4).alloc (Nat.le_refl _) (.cells #[] 3)).trans (hB45.mono (by omega))
  have hs5 := hB5.size
  have hki : ∀ x ∈ ks, 0 ≤ x ∧ x < s.m.length := fun x hx => by
    have h := HHK.out
    unfold hkB at h
    rw [List.all_eq_true] at h
    have h := h x hx
    rwa [decide_eq_true_eq] at h
  obtain ⟨aq, cq, rfl, hiq⟩ := hr5.at (fun x hx => by have := hki x hx; unfold i64ok; omega)
  have hrs : RsAt w5 (w.heap.size + 1) (.slice av l.length cv) (.slice (some ⟨w4.heap.size, 0, none⟩) 0 0) (.slice (some ⟨w.heap.size + 1, 0, none⟩) 0 0) l [] [] ks aq cq := by
    have hvl := World.ownsRow.lt V4.out
    refine ⟨ownsRow_low (ElRow.below (f := Value.int .i64) (e := 3) V4.out hB5) (by omega), ownsRow_low (ElRow.below (f := Value.int .i64) (e := 3) HD4.out (by simpa using hB45)) (by omega), ownsRow_low (ElRow.below (f := Value.int .i64) (e := 3) O4.out hB5) (by omega), ?_, fun b hb h => ?_, fun b hb h => ?_, fun b hb h => ?_⟩
    · refine ⟨_, hiq.lim, fun b hs => ⟨by omega, hs.2, fun e => ?_, fun e => ?_, fun e => ?_⟩⟩
      · have := (hvl b e).2; omega
      · simp [Value.ownBlock] at e; omega
      · have := (HO3L.out b e).2; omega
    · have := (hvl b hb).2; simp [Value.ownBlock] at h; omega
    · have := (hvl b hb).1; have := (HO3L.out b h).2; omega
    · have := (HO3L.out b h).2; simp [Value.ownBlock] at hb; omega
  have hv0 : ValsOk s l l [] := ⟨rfl, fun x _ => by
    rw [dnS_nil]
    unfold d0S
    cases hm : s.mdI x
    · rw [vsS_free HSO.out hm]; simp
    · simp⟩
  have H5 := Lib.hid (And.intro hrs (And.intro hv0 (And.intro (K4.out.step hB5) hki)))
  clear hr5 hgr5 hn5 hB45 hB5 hki hiq hrs hv0 K4 Q4 O4 V4 HD4 HQ4 HO3L
  rw [← HKL.out]
  go_wp2_with fail
  go_loopg [8, 10, 11] M (fun gk vo vd vq wr => ∃ (vl D O' q : List Int) (aq : Option Addr) (cq : Nat) (o : List Int), vq = .slice aq q.length cq ∧ RsAt wr (w.heap.size + 1) (.slice av l.length cv) vd vo vl D O' q aq cq ∧ Ends emR (chS s l) (dnS s D) q o gk ∧ O' ++ o = O ∧ ValsOk s l vl D ∧ (∀ x ∈ q, 0 ≤ x ∧ x < s.m.length) ∧
    Ks (fun b => S0 b ∧ b < w.heap.size) s a c a' c' 26 w wr ∧ q.length ≤ KL + O'.length ∧ D.length ≤ O'.length ∧ (∀ x ∈ D, 0 ≤ x ∧ x < s.m.length))
  case atStart => exact ⟨l, [], [], ks, aq, cq, O, by rw [HKL.out], H5.out.1, by rw [dnS_nil]; exact HY.out.2, rfl, H5.out.2.1, H5.out.2.2.2, H5.out.2.2.1, by rw [HKL.out]; simp, by simp, by simp⟩
  case round =>
    obtain ⟨vl, D, O', q, aq, cq, o, rfl, hrs, hends, hoo, hvo, hqr, hKs, hql, hdl, hdr⟩ := hrel
    have hol : O'.length ≤ 160 := by rw [← hoo, List.length_append] at hOb; omega
    have hws := hKs.size
    cases q with
    | nil =>
      have hoe : O' = O := by rw [← hoo, hends.inv_nil, List.append_nil]
      have H6 := Lib.hid (And.intro hrs (And.intro hKs hoe))
      obtain ⟨ao, co, rfl, _⟩ := ElRow.at (f := Value.int .i64) (e := 3) hrs.o
      clear H5 hrs hends hoo hvo hqr hKs hql hdl hdr hoe
      go_wp2_with fail
      go_ret2
      exact HYES.out _ _ _ _ HY.out.1 HY.out.2 H6.out.2.1.done (by rw [← H6.out.2.2]; exact ownsRow_low H6.out.1.o (by omega))
    | cons key q =>
      have hkr := hqr key (by simp)
      obtain ⟨kn, rfl⟩ : ∃ kn : Nat, key = kn := ⟨key.toNat, by omega⟩
      have hkn : kn < s.m.length := by omega
      obtain ⟨bq, oq, haq, hcq, hcap, hcapm⟩ := hrs.head
      subst haq
      obtain ⟨x0, x1⟩ := hKs.box
      obtain ⟨bm, om, ha, hbml, hcm⟩ := md_cell hKs.2 hkn
      have HA := Lib.hid ha
      have hqr2 : ∀ x ∈ q, 0 ≤ x ∧ x < s.m.length := fun x hx => hqr x (by simp [hx])
      have hql2 : q.length + 1 ≤ KL + O'.length := by simpa using hql
      have H6 := Lib.hid (And.intro hrs (And.intro hends (And.intro hoo (And.intro hvo (And.intro hqr2 (And.intro hKs (And.intro hql2 (And.intro hdl hdr))))))))
      obtain ⟨mk, hmk⟩ : ∃ mk, mk = s.mdI (kn : Int) := ⟨_, rfl⟩
      rw [← hmk] at hcm
      have HMK := Lib.hid hmk
      clear hmk H5 hrs hends hoo hvo hqr hqr2 hKs hql hql2 hdl hdr ha
      obtain rfl := HA.out
      have hlen1 : ((kn : Int) :: q).length = q.length + 1 := rfl
      rw [hlen1]
      clear hlen1
      rcases Nat.eq_zero_or_pos (cq - 1) with hc1 | hc1
      case' inl => have HT := Lib.hid (H6.out.1.tail0 hc1)
      case' inr =>
        have HT := Lib.hid H6.out.1.tail
        have hc2 : ¬ cq - 1 = 0 := by omega
      all_goals
        cases mk
        · have hdd : dnS s D (kn : Int) = true := by unfold dnS; rw [← HMK.out]; rfl
          obtain ⟨m', hm', he'⟩ := H6.out.2.1.inv_skip hdd
          have H7 := Lib.hid (And.intro he' hm')
          clear hdd hm' he'
          go_wp2_with fail
          go_roundg m'
          case rel => exact ⟨vl, D, O', q, _, _, o, rfl, HT.out, H7.out.1, H6.out.2.2.1, H6.out.2.2.2.1, H6.out.2.2.2.2.1, H6.out.2.2.2.2.2.1, by have := H6.out.2.2.2.2.2.2.1; omega, H6.out.2.2.2.2.2.2.2.1, H6.out.2.2.2.2.2.2.2.2⟩
          case measure => have := H7.out.2; omega
        · obtain ⟨p, hp⟩ : ∃ p, p = decide ((kn : Int) ∈ D) := ⟨_, rfl⟩
          have HP := Lib.hid hp
          obtain ⟨add, cdd, rfl, hiD⟩ := H6.out.1.d.at (fun x hx => by have := H6.out.2.2.2.2.2.2.2.2 x hx; unfold i64ok; omega)
          have HID := Lib.hid hiD
          clear hp hiD
          go_wp2_with fail
          refine (has_any wr _ D add cdd (kn : Int) HID.out).mono ?_
          rintro e w6 ⟨rfl, rfl⟩
          rw [← HP.out]
          cases p
          · have hdd : dnS s D (kn : Int) = false := by unfold dnS; rw [← HMK.out, ← HP.out]; rfl
            have HDD := Lib.hid hdd
            obtain ⟨iN, ni, nz0, nz1, nz2⟩ := info_parts infoInt
            have HIN := Lib.hid (And.intro ni (And.intro nz0 (And.intro nz1 nz2)))
            have hml : maxLen = 9223372036854775807 := rfl
            have HML := Lib.hid hml
            clear hdd ni nz0 nz1 nz2 hml
            go_wp2_with (at_builtin; refine wpList_append_row _ rfl (.tmp 59) (.tmp 61) 30 rfl (w.heap.size + 1) 3 iN (.int .i64 0) 1 8 Try.underlying30 HIN.out.1 HIN.out.2.1 HIN.out.2.2.1 HIN.out.2.2.2 rfl (by decide) _ O'.length (O'.map (Value.int .i64)) rfl (World.ownsRow.alloc H6.out.1.o _) ⟨wr.heap.size, 0, none⟩ 1 1 [.int .i64 (kn : Int)] rfl rfl ?e1 ?e2 (by decide) ?e3 ?e4 ?e5 ?_)
            case e1 => exact news1 _ _ _
            case e2 => simp [Value.oneCell']
            case e3 => rw [HML.out]; omega
            case e4 => omega
            case e5 => simp; omega
            intro vo2 w7 hown hgr hnew
            have hr7 : NumRow w7 (w.heap.size + 1) vo2 (O' ++ [(kn : Int)]) := by
              unfold NumRow
              rw [List.map_append, List.length_append]
              exact hown
            have hf7 : Fr (fun b => u8.ownBlock = some b) wr w7 := (Fr.of_below (D := fun b => u8.ownBlock = some b) ((Below.refl wr.heap.size wr).alloc (Nat.le_refl _) (.cells #[.int .i64 (kn : Int)] 3))).trans (gr_fr hgr) (fun b hb => .inl hb)
            have hrs7 := H6.out.1.pushO hf7 hr7 (fun b hb => (hnew b hb).imp id (fun h => by first | omega | (simp at h; omega)))
            have hol7 := World.ownsRow.lt H6.out.1.o
            have hK7 := H6.out.2.2.2.2.2.1.fr hf7 (fun b hb => (hol7 b hb).1) (fun _ h => h.2)
            have hvb : ∀ x ∈ vl, i64ok x := fun x hx => by
              obtain ⟨i, hi, rfl⟩ := List.getElem_of_mem hx
              have h1 := H6.out.2.2.2.1.2 (i : Int) (by omega)
              rw [vf_in hi] at h1
              rw [h1]
              have h2 := vsS_bd HI.out (i : Int)
              have h3 := vf_bd (vok_mem (inOk_of HI.out).2.2).2 (i : Int)
              unfold i64ok
              split <;> omega
            obtain ⟨av2, cv2, hav, hiv⟩ := hrs7.v.at hvb
            have hvll : vl.length = l.length := H6.out.2.2.2.1.1
            obtain ⟨rfl, rfl⟩ : av = av2 ∧ cv = cv2 := by
              simp only [Value.slice.injEq] at hav
              exact ⟨hav.1, hav.2.2⟩
            obtain ⟨ad2, cd2, had, hiD7⟩ := hrs7.d.at (fun x hx => by have := H6.out.2.2.2.2.2.2.2.2 x hx; unfold i64ok; omega)
            obtain ⟨rfl, rfl⟩ : add = ad2 ∧ cdd = cd2 := by
              simp only [Value.slice.injEq, true_and] at had
              exact had
            have htry := try4_any s l vl D kn w7 _ _ _ (some ⟨bm, om, none⟩) c a' c' av cv add cdd hK7.2 hiv hiD7 HI.out hkn HMK.out.symm H6.out.2.2.2.1.2 (fun x _ => HOK.out x)
            rw [hvll, ← HLL.out] at htry
            have HTRY := Lib.hid htry
            have hs7 := hf7.size
            have H7 := Lib.hid (And.intro hrs7 (And.intro hK7 (And.intro hvb (And.intro hvll hf7))))
            obtain ⟨x0, x1⟩ := hK7.box
            have hov : ∃ ao co, vo2 = .slice ao (O'.length + 1) co := by
              obtain ⟨ao, co, h, _⟩ := ElRow.at (f := Value.int .i64) (e := 3) hr7
              rw [List.length_append, List.length_singleton] at h
              exact ⟨ao, co, h⟩
            obtain ⟨ao, co, rfl⟩ := hov
            clear hown hgr hnew hr7 hf7 hrs7 hol7 hK7 hvb hiv hvll hav had hiD7 htry HID hcm hbml
            go_wp2_with fail
            refine HTRY.out.mono ?_
            rintro e w8 ⟨hb, hcase⟩
            have hs8 := hb.size
            have H8 := Lib.hid (And.intro (H7.out.1.below hb) (And.intro (H7.out.2.1.step hb) hb))
            clear hb HTRY x0 x1
            rcases hcase with ⟨j, hnx, rfl⟩ | ⟨hnx, rfl⟩
            · obtain ⟨m', o', hm', ho', he'⟩ := H6.out.2.1.inv_more HDD.out hnx
              have hj2 : d0S s j = false := by
                cases hx : d0S s j
                · rfl
                · have := (nxt_some hnx).2; rw [dnS_lo hx] at this; cases this
              have hjm := mdI_bd (show s.mdI j = true by unfold d0S at hj2; simpa using hj2)
              have H9 := Lib.hid (And.intro he' (And.intro hm' (And.intro ho' hjm)))
              obtain ⟨Sq, hq1, hq2⟩ := HT.out.q
              have hqi := ((hq1.fr H7.out.2.2.2.2 (fun b hb => (hq2 b hb).2.2.2.2)).below H8.out.2.2).weaken (S' := fun _ => True) (fun _ _ => trivial)
              clear hq1 hq2
              have HQI := Lib.hid (hqi.alloc (.cells #[.int .i64 j, .int .i64 (kn : Int)] 3))
              have hq2 : NumRow (w8.alloc (.cells #[.int .i64 j, .int .i64 (kn : Int)] 3)) w8.heap.size (.slice (some ⟨w8.heap.size, 0, none⟩) 2 2) [j, (kn : Int)] :=
                ElRow.of_blk (f := Value.int .i64) (e := 3) (l := [j, (kn : Int)]) (Blk.new w8 3 #[.int .i64 j, .int .i64 (kn : Int)]) (Nat.le_refl _) (by simp) (by simp)
              have HQ2 := Lib.hid hq2
              clear hnx hm' ho' he' hj2 hjm hqi hq2
              go_wp2_with (at_builtin; refine wpList_append_ints _ rfl (.tmp 83) (.tmp 84) rfl w8.heap.size _ [j, (kn : Int)] rfl HQ2.out _ q q.length _ _ rfl rfl HQI.out ?g1 ?g2 ?_)
              case g1 => have := H6.out.2.2.2.2.2.2.1; simp; omega
              case g2 => simp
              intro vq2 w9 hr9 hgr9 _
              have hB9 : Below w8.heap.size w8 w9 := ((Below.refl w8.heap.size w8).alloc (Nat.le_refl _) (.cells #[.int .i64 j, .int .i64 (kn : Int)] 3)).trans (below_grown hgr9 (by simp) (by intro k hk; simp [Value.ownBlock] at hk; omega))
              obtain ⟨aq9, cq9, rfl, hrs9⟩ := H8.out.1.newQ hB9 (by omega) hr9 (fun x hx => by
                have hxx : 0 ≤ x ∧ x < s.m.length := by
                  simp only [List.mem_cons] at hx
                  rcases hx with rfl | rfl | hx
                  · exact H9.out.2.2.2
                  · exact ⟨by omega, by omega⟩
                  · exact H6.out.2.2.2.2.1 x hx
                unfold i64ok; omega)
              have HR := Lib.hid (And.intro hrs9 (H8.out.2.1.step hB9))
              clear hr9 hgr9 hB9 hrs9
              go_wp2_with fail
              go_roundg m'
              case rel => exact ⟨vl, D, O' ++ [(kn : Int)], j :: (kn : Int) :: q, _, _, o', rfl, HR.out.1, H9.out.1, by rw [← H6.out.2.2.1, H9.out.2.2.1, List.append_assoc]; rfl, H6.out.2.2.2.1, fun x hx => by
                  simp only [List.mem_cons] at hx
                  rcases hx with rfl | rfl | hx
                  · exact H9.out.2.2.2
                  · exact ⟨by omega, by omega⟩
                  · exact H6.out.2.2.2.2.1 x hx, HR.out.2, by have := H6.out.2.2.2.2.2.2.1; simp; omega, by have := H6.out.2.2.2.2.2.2.2.1; simp; omega, H6.out.2.2.2.2.2.2.2.2⟩
              case measure => have := H9.out.2.1; omega
            · obtain ⟨m', o', hm', ho', he'⟩ := H6.out.2.1.inv_fin HDD.out hnx
              rw [← dnS_snoc] at he'
              have H9 := Lib.hid (And.intro he' (And.intro hm' ho'))
              obtain ⟨x, hx⟩ : ∃ x, x = vsS s l (kn : Int) := ⟨_, rfl⟩
              rw [← hx]
              have HX := Lib.hid hx
              have hvll : vl.length = l.length := H7.out.2.2.2.1
              have hknl : kn < vl.length := by have := HLM.out; have := HLL.out; omega
              obtain ⟨gv, capv, hgv⟩ := own_some H8.out.1.v (by omega)
              obtain ⟨rfl, rfl⟩ : av = some ⟨gv, 0, none⟩ ∧ cv = capv := by
                simp only [Value.slice.injEq] at hgv
                exact ⟨hgv.1, hgv.2.2⟩
              obtain ⟨csv, hbv⟩ := num_blk H8.out.1.v
              have hcv : w8.cell? ⟨gv, kn, none⟩ = some (.int .i64 (vl[kn]'hknl)) := by
                have hc := World.ownsRow.cells H8.out.1.v (g := gv) rfl kn (.int .i64 (vl[kn]'hknl)) (by rw [List.getElem?_map, List.getElem?_eq_getElem hknl]; rfl)
                rwa [addr0] at hc
              obtain ⟨ov, hov⟩ : ∃ ov, ov = Value.int .i64 (vl[kn]'hknl) := ⟨_, rfl⟩
              rw [← hov] at hcv
              have hfv := hbv.frozen kn
              have hgl := hbv.lt
              have hknLL : kn < LL := by have := HLL.out; omega
              have hset := H8.out.1.setV kn x
              have hfs : Fr (fun b => b = gv) w8 (w8.setCell ⟨gv, kn, none⟩ (.int .i64 x)) := Fr.set' (D := fun b => b = gv) (Fr.of_below (Below.refl _ _)) ⟨gv, kn, none⟩ rfl _
              have hvlt := World.ownsRow.lt H8.out.1.v
              have hKs := H8.out.2.1.fr hfs (fun b hb => by have := (hvlt gv rfl).1; omega) (fun _ h => h.2)
              have hsz : (w8.setCell ⟨gv, kn, none⟩ (.int .i64 x)).heap.size = w8.heap.size := by simp [World.setCell]
              have hvo2 : ValsOk s l (vl.set kn x) (D ++ [(kn : Int)]) := by
                refine ⟨by rw [List.length_set]; exact hvll, fun y hy => ?_⟩
                rw [vf_set hknl x y hy, dnS_snoc]
                unfold upd
                by_cases hyk : y = (kn : Int)
                · subst hyk
                  rw [if_pos rfl, hx]; simp
                · rw [if_neg hyk, decide_eq_false hyk, Bool.or_false]
                  exact H6.out.2.2.2.1.2 y hy
              have HS := Lib.hid (And.intro hset (And.intro hKs hvo2))
              have hrow8 : (w8.setCell ⟨gv, kn, none⟩ (.int .i64 x)).ownsRow (w.heap.size + 1) 3 1 (.slice add D.length cdd) D.length (D.map (Value.int .i64)) := hset.d
              have HROW8 := Lib.hid hrow8
              have hdl := H6.out.2.2.2.2.2.2.2.1
              clear hnx hm' ho' he' hx hvll hgv hbv hov hset hfs hvlt hKs hvo2 hknl hrow8
              go_wp2_with (at_builtin; refine wpList_append_row _ rfl (.tmp 77) (.tmp 79) 30 rfl (w.heap.size + 1) 3 iN (.int .i64 0) 1 8 Try.underlying30 HIN.out.1 HIN.out.2.1 HIN.out.2.2.1 HIN.out.2.2.2 rfl (by decide) _ D.length (D.map (Value.int .i64)) rfl (World.ownsRow.alloc HROW8.out _) _ 1 1 [.int .i64 (kn : Int)] rfl rfl ?h1 ?h2 (by decide) ?h3 ?h4 ?h5 ?_)
              case h1 => first | exact news1 _ _ _ | (have h := news1 (w8.setCell ⟨gv, kn, none⟩ (.int .i64 x)) 3 (.int .i64 (kn : Int)); rw [hsz] at h; exact h)
              case h2 => simp [Value.oneCell']
              case h3 => rw [HML.out]; omega
              case h4 => omega
              case h5 => simp [hsz]; omega
              intro vd2 w9 hown hgr hnew
              have hr9 : NumRow w9 (w.heap.size + 1) vd2 (D ++ [(kn : Int)]) := by
                unfold NumRow
                rw [List.map_append, List.length_append]
                exact hown
              have hf9 : Fr (fun b => (Value.slice add D.length cdd).ownBlock = some b) (w8.setCell ⟨gv, kn, none⟩ (.int .i64 x)) w9 := (Fr.of_below (D := fun b => (Value.slice add D.length cdd).ownBlock = some b) ((Below.refl (w8.setCell ⟨gv, kn, none⟩ (.int .i64 x)).heap.size (w8.setCell ⟨gv, kn, none⟩ (.int .i64 x))).alloc (Nat.le_refl _) (.cells #[.int .i64 (kn : Int)] 3))).trans (gr_fr hgr) (fun b hb => .inl hb)
              have hrs9 := HS.out.1.pushD hf9 hr9 (fun b hb => (hnew b hb).imp id (fun h => by rw [hsz]; first | omega | (simp [hsz] at h; omega)))
              have hdlt := World.ownsRow.lt HS.out.1.d
              have hK9 := HS.out.2.1.fr hf9 (fun b hb => (hdlt b hb).1) (fun _ h => h.2)
              have H10 := Lib.hid (And.intro hrs9 (And.intro hK9 HS.out.2.2))
              obtain ⟨ad9, cd9, rfl, _⟩ := ElRow.at (f := Value.int .i64) (e := 3) hr9
              clear hown hgr hnew hr9 hf9 hrs9 hdlt hK9 HS HROW8
              go_wp2_with fail
              go_roundg m'
              case rel => exact ⟨vl.set kn x, D ++ [(kn : Int)], O' ++ [(kn : Int)], q, _, _, o', rfl, (by first | exact H10.out.1.tail0 hc1 | exact H10.out.1.tail), H9.out.1, by rw [← H6.out.2.2.1, H9.out.2.2, List.append_assoc]; rfl, H10.out.2.2, H6.out.2.2.2.2.1, H10.out.2.1, by have := H6.out.2.2.2.2.2.2.1; simp; omega, by simp; omega, fun y hy => by
                  rw [List.mem_append, List.mem_singleton] at hy
                  rcases hy with hy | rfl
                  · exact H6.out.2.2.2.2.2.2.2.2 y hy
                  · exact ⟨by omega, by omega⟩⟩
              case measure => have := H9.out.2.1; omega
          · have hdd : dnS s D (kn : Int) = true := by unfold dnS; rw [← HP.out]; simp
            obtain ⟨m', hm', he'⟩ := H6.out.2.1.inv_skip hdd
            have H7 := Lib.hid (And.intro he' hm')
            clear hdd hm' he' HID
            go_wp2_with fail
            go_roundg m'
            case rel => exact ⟨vl, D, O', q, _, _, o, rfl, HT.out, H7.out.1, H6.out.2.2.1, H6.out.2.2.2.1, H6.out.2.2.2.2.1, H6.out.2.2.2.2.2.1, by have := H6.out.2.2.2.2.2.2.1; omega, H6.out.2.2.2.2.2.2.2.1, H6.out.2.2.2.2.2.2.2.2⟩
            case measure => have := H7.out.2; omega
end Go.Proofs.Ytklmpagpkeffjaa

/- spec.l4Once.key: where it begins, what it leaves; keys that are no matter -/
namespace Go.Proofs.Ytklmpagpkeffjaa
open Go.RowKit

/-- The builder in block q: a sheet; values, what is done, what is under, each in memory of its own. -/
structure OnSt (w : World) (q B : Nat) (s : Sh) (a : Option Addr) (c : Nat) (a' : Option Addr) (c' : Nat) (vv dv uv : Value) (vl D U : List Int) : Prop where
  bd : Blk w q 87 #[.slice a s.m.length c, .slice a' s.t.length c', vv, dv, uv]
  v : NumRow w B vv vl
  d : NumRow w B dv D
  u : NumRow w B uv U
  nqv : ¬ vv.ownBlock = some q
  nqd : ¬ dv.ownBlock = some q
  nqu : ¬ uv.ownBlock = some q
  nvd : ∀ b, vv.ownBlock = some b → ¬ dv.ownBlock = some b
  nvu : ∀ b, vv.ownBlock = some b → ¬ uv.ownBlock = some b
  ndu : ∀ b, dv.ownBlock = some b → ¬ uv.ownBlock = some b

/-- What turns while keys are built. -/
def oB (q : Nat) (vv dv uv : Value) (b : Nat) : Prop := b = q ∨ vv.ownBlock = some b ∨ dv.ownBlock = some b ∨ uv.ownBlock = some b

section
variable {w w' : World} {q B : Nat} {s : Sh} {a : Option Addr} {c : Nat} {a' : Option Addr} {c' : Nat} {vv dv uv : Value} {vl D U : List Int}
theorem OnSt.fr {F : Nat → Prop} (h : OnSt w q B s a c a' c' vv dv uv vl D U) (hf : Fr F w w') (hF : ∀ b, F b → ¬ oB q vv dv uv b) : OnSt w' q B s a c a' c' vv dv uv vl D U where
  bd := h.bd.fr hf (fun hq => hF q hq (.inl rfl))
  v := num_fr h.v hf (fun g hg hb => hF g hb (.inr (.inl hg)))
  d := num_fr h.d hf (fun g hg hb => hF g hb (.inr (.inr (.inl hg))))
  u := num_fr h.u hf (fun g hg hb => hF g hb (.inr (.inr (.inr hg))))
  nqv := h.nqv
  nqd := h.nqd
  nqu := h.nqu
  nvd := h.nvd
  nvu := h.nvu
  ndu := h.ndu
theorem OnSt.below (h : OnSt w q B s a c a' c' vv dv uv vl D U) (hb : Below w.heap.size w w') : OnSt w' q B s a c a' c' vv dv uv vl D U :=
  h.fr (F := fun _ => False) (Fr.of_below hb) (fun _ h => h.elim)
theorem OnSt.alloc (h : OnSt w q B s a c a' c' vv dv uv vl D U) (o : Obj) : OnSt (w.alloc o) q B s a c a' c' vv dv uv vl D U := h.below ((Below.refl _ _).alloc (Nat.le_refl _) o)
theorem OnSt.lt (h : OnSt w q B s a c a' c' vv dv uv vl D U) : ∀ b, oB q vv dv uv b → b < w.heap.size := fun b hb => by
  rcases hb with rfl | hb | hb | hb
  · exact h.bd.lt
  · exact (World.ownsRow.lt h.v b hb).2
  · exact (World.ownsRow.lt h.d b hb).2
  · exact (World.ownsRow.lt h.u b hb).2
theorem OnSt.ge (h : OnSt w q B s a c a' c' vv dv uv vl D U) (hB : B ≤ q) : ∀ b, oB q vv dv uv b → B ≤ b := fun b hb => by
  rcases hb with rfl | hb | hb | hb
  · exact hB
  · exact (World.ownsRow.lt h.v b hb).1
  · exact (World.ownsRow.lt h.d b hb).1
  · exact (World.ownsRow.lt h.u b hb).1
/-- Another list of what is under: appended to, and stored. -/
theorem OnSt.setU {uv' : Value} {U' : List Int} (h : OnSt w q B s a c a' c' vv dv uv vl D U) (hf : Fr (fun b => uv.ownBlock = some b) w w') (hr : NumRow w' B uv' U') (hn : ∀ b, uv'.ownBlock = some b → uv.ownBlock = some b ∨ w.heap.size ≤ b) : OnSt (w'.setCell ⟨q, 4, none⟩ uv') q B s a c a' c' vv dv uv' vl D U' := by
  have hfq : Fr (fun b => b = q) w' (w'.setCell ⟨q, 4, none⟩ uv') := Fr.set' (D := fun b => b = q) (Fr.of_below (Below.refl _ _)) ⟨q, 4, none⟩ rfl _
  have hq : ∀ b, uv'.ownBlock = some b → b ≠ q := fun b hb e => by
    rcases hn b hb with h1 | h1
    · exact h.nqu (by rw [← e]; exact h1)
    · have := h.bd.lt; omega
  refine ⟨(h.bd.fr hf h.nqu).set_ 4 uv', num_fr (num_fr h.v hf (fun g hg => h.nvu g hg)) hfq (fun g hg e => h.nqv (by rw [← e]; exact hg)), num_fr (num_fr h.d hf (fun g hg => h.ndu g hg)) hfq (fun g hg e => h.nqd (by rw [← e]; exact hg)), num_fr hr hfq hq, h.nqv, h.nqd, fun e => hq q e rfl, h.nvd, fun b hb e => ?_, fun b hb e => ?_⟩
  · rcases hn b e with h1 | h1
    · exact h.nvu b hb h1
    · have := (World.ownsRow.lt h.v b hb).2; omega
  · rcases hn b e with h1 | h1
    · exact h.ndu b hb h1
    · have := (World.ownsRow.lt h.d b hb).2; omega
/-- Another list of what is done. -/
theorem OnSt.setD {dv' : Value} {D' : List Int} (h : OnSt w q B s a c a' c' vv dv uv vl D U) (hf : Fr (fun b => dv.ownBlock = some b) w w') (hr : NumRow w' B dv' D') (hn : ∀ b, dv'.ownBlock = some b → dv.ownBlock = some b ∨ w.heap.size ≤ b) : OnSt (w'.setCell ⟨q, 3, none⟩ dv') q B s a c a' c' vv dv' uv vl D' U := by
  have hfq : Fr (fun b => b = q) w' (w'.setCell ⟨q, 3, none⟩ dv') := Fr.set' (D := fun b => b = q) (Fr.of_below (Below.refl _ _)) ⟨q, 3, none⟩ rfl _
  have hq : ∀ b, dv'.ownBlock = some b → b ≠ q := fun b hb e => by
    rcases hn b hb with h1 | h1
    · exact h.nqd (by rw [← e]; exact h1)
    · have := h.bd.lt; omega
  refine ⟨(h.bd.fr hf h.nqd).set_ 3 dv', num_fr (num_fr h.v hf (fun g hg => h.nvd g hg)) hfq (fun g hg e => h.nqv (by rw [← e]; exact hg)), num_fr hr hfq hq, num_fr (num_fr h.u hf (fun g hg e => h.ndu g e hg)) hfq (fun g hg e => h.nqu (by rw [← e]; exact hg)), h.nqv, fun e => hq q e rfl, h.nqu, fun b hb e => ?_, h.nvu, fun b hb e => ?_⟩
  · rcases hn b e with h1 | h1
    · exact h.nvd b hb h1
    · have := (World.ownsRow.lt h.v b hb).2; omega
  · rcases hn b hb with h1 | h1
    · exact h.ndu b h1 e
    · have := (World.ownsRow.lt h.u b e).2; omega
/-- A value is set. -/
theorem OnSt.setV {g n cap : Nat} (h : OnSt w q B s a c a' c' (.slice (some ⟨g, 0, none⟩) n cap) dv uv vl D U) (i : Nat) (x : Int) : OnSt (w.setCell ⟨g, i, none⟩ (.int .i64 x)) q B s a c a' c' (.slice (some ⟨g, 0, none⟩) n cap) dv uv (vl.set i x) D U := by
  have hf : Fr (fun b => b = g) w (w.setCell ⟨g, i, none⟩ (.int .i64 x)) := Fr.set' (D := fun b => b = g) (Fr.of_below (Below.refl _ _)) ⟨g, i, none⟩ rfl _
  exact ⟨h.bd.fr hf (fun e => h.nqv (by rw [e]; rfl)), h.v.set_ i x, num_fr h.d hf (fun b hb e => h.nvd g rfl (by rw [← e]; exact hb)), num_fr h.u hf (fun b hb e => h.nvu g rfl (by rw [← e]; exact hb)), h.nqv, h.nqd, h.nqu, h.nvd, h.nvu, h.ndu⟩
end

/-- What is done so far: made keys, each once; they can be done, and have their values. -/
structure DOk (s : Sh) (l vl D : List Int) : Prop where
  md : ∀ x ∈ D, s.mdI x = true
  nod : D.Nodup
  hi : ∀ x, dnS s D x = true → okS s l x = true
  vals : ValsOk s l vl D

/-- What the building of a key leaves. -/
def KoPost (s : Sh) (l : List Int) (q B : Nat) (a : Option Addr) (c : Nat) (a' : Option Addr) (c' : Nat) (vv dv uv : Value) (D U : List Int) (k : Int) (w : World) (e : Ending) (w' : World) : Prop :=
  ∃ (dv' uv' : Value) (vl' D' : List Int) (x : Int) (b : Bool), e = .returned (.tuple #[.int .i64 x, .bool b]) ∧ OnSt w' q B s a c a' c' vv dv' uv' vl' D' U ∧ Fr (oB q vv dv uv) w w' ∧
    (∀ b, dv'.ownBlock = some b → dv.ownBlock = some b ∨ w.heap.size ≤ b) ∧ (∀ b, uv'.ownBlock = some b → uv.ownBlock = some b ∨ w.heap.size ≤ b) ∧
    ((b = true ∧ okS s l k = true ∧ x = vsS s l k ∧ DOk s l vl' D' ∧ dnS s D' k = true ∧ ∃ X, D' = D ++ X ∧ (∀ y ∈ X, rkV s.mdI s.tkI (vf l) y ≤ rkV s.mdI s.tkI (vf l) k) ∧ Visit emS (chS s l) (dnS s D) k X (dnS s D')) ∨ (b = false ∧ okS s l k = false))

/-- Where the building of a key begins. -/
structure KoPre (S : Nat → Prop) (s : Sh) (l : List Int) (q B : Nat) (a : Option Addr) (c : Nat) (a' : Option Addr) (c' : Nat) (vv dv uv : Value) (vl D U : List Int) (k : Int) (w : World) : Prop where
  inn : inOk s l = true
  sh : ShAt w S s a c a' c'
  lo : ∀ b, S b → b < B
  hB : B ≤ q
  st : OnSt w q B s a c a' c' vv dv uv vl D U
  dok : DOk s l vl D
  k0 : 0 ≤ k
  k9 : k ≤ 9
  hyp : Hyp (fun k => !s.mdI k) (okS s l) (rkV s.mdI s.tkI (vf l)) U k
  nod : U.Nodup

def KoT (S : Nat → Prop) (s : Sh) (l : List Int) (q B : Nat) (a : Option Addr) (c : Nat) (a' : Option Addr) (c' : Nat) (vv : Value) (r : Nat) : Prop :=
  ∀ (dv uv : Value) (vl D U : List Int) (k : Int) (w : World), U.length + r = s.m.length + 1 → KoPre S s l q B a c a' c' vv dv uv vl D U k w →
    Calls Try.prog 72 #[.pointer (some ⟨q, 0, none⟩), .int .i64 k] w (KoPost s l q B a c a' c' vv dv uv D U k w)

section
variable {S : Nat → Prop} {s : Sh} {l : List Int} {q B : Nat} {a : Option Addr} {c : Nat} {a' : Option Addr} {c' : Nat} {vv dv uv : Value} {vl D U : List Int} {k : Int} {w : World}

/-- Nothing has turned. -/
theorem KoPre.same (h : KoPre S s l q B a c a' c' vv dv uv vl D U k w) {x : Int} (hd : dnS s D k = true) (hv : x = vsS s l k) : KoPost s l q B a c a' c' vv dv uv D U k w (.returned (.tuple #[.int .i64 x, .bool true])) w :=
  ⟨dv, uv, vl, D, x, true, rfl, h.st, Fr.of_below (Below.refl _ _), fun _ hb => .inl hb, fun _ hb => .inl hb, .inl ⟨rfl, h.dok.hi k hd, hv, h.dok, hd, [], by simp, by simp, Visit.done hd⟩⟩

theorem ko_far (hp : KoPre S s l q B a c a' c' vv dv uv vl D U k w) (hk : (s.m.length : Int) ≤ k) :
    Calls Try.prog 72 #[.pointer (some ⟨q, 0, none⟩), .int .i64 k] w (KoPost s l q B a c a' c' vv dv uv D U k w) := by
  have H := Lib.hid hp
  obtain ⟨x0, x1, x2, x3, x4, _⟩ := Blk.five hp.st.bd
  obtain ⟨h1, h2, h3⟩ := inOk_of hp.inn
  have hmf : s.mdI k = false := by
    cases hx : s.mdI k
    · rfl
    · have := mdI_bd hx; omega
  have hlm : s.m.length ≤ 10 := (Sh.ok_iff.1 h1).1
  have k0 := hp.k0
  have k9 := hp.k9
  have HO := Lib.hid (show dnS s D k = true by unfold dnS; rw [hmf]; rfl)
  have HV := Lib.hid (show (0 : Int) = vsS s l k by rw [vsS_free h1 hmf, vf_far (by omega)])
  have hd : decide (((s.m.length : Nat) : Int) ≤ k) = true := decide_eq_true hk
  clear hp h1 h2 h3 hmf
  go_enter Try.func72, Try.ntmps72
  go_wp2_with fail
  go_ret2
  exact H.out.same HO.out HV.out

theorem KoPre.dLen (h : KoPre S s l q B a c a' c' vv dv uv vl D U k w) : D.length ≤ s.m.length := nodup_bound _ D h.dok.nod (fun x hx => mdI_bd (h.dok.md x hx))
theorem KoPre.undB (h : KoPre S s l q B a c a' c' vv dv uv vl D U k w) : ∀ u ∈ U, 0 ≤ u ∧ u < s.m.length := fun u hu => mdI_bd (by
  have := (h.hyp u hu).1
  simpa using this)
theorem KoPre.undL (h : KoPre S s l q B a c a' c' vv dv uv vl D U k w) : U.length ≤ s.m.length := nodup_bound _ U h.nod h.undB

set_option maxHeartbeats 1000000 in
theorem ko_in (hp : KoPre S s l q B a c a' c' vv dv uv vl D U k w) (hk : k < s.m.length) (hdn : dnS s D k = true) :
    Calls Try.prog 72 #[.pointer (some ⟨q, 0, none⟩), .int .i64 k] w (KoPost s l q B a c a' c' vv dv uv D U k w) := by
  have H := Lib.hid hp
  obtain ⟨x0, x1, x2, x3, x4, _⟩ := Blk.five hp.st.bd
  obtain ⟨h1, h2, h3⟩ := inOk_of hp.inn
  obtain ⟨kn, rfl⟩ : ∃ kn : Nat, k = kn := ⟨k.toNat, by have := hp.k0; omega⟩
  have hkn : kn < s.m.length := by omega
  have hlm : s.m.length ≤ 10 := (Sh.ok_iff.1 h1).1
  have hvl := hp.dok.vals
  have hkl : kn < vl.length := by rw [hvl.1]; omega
  have hv0 := hvl.2 (kn : Int) (by omega)
  rw [hdn, if_pos rfl, vf_in hkl] at hv0
  have hDb : ∀ x ∈ D, i64ok x := fun x hx => by have := mdI_bd (hp.dok.md x hx); unfold i64ok; omega
  obtain ⟨ad, cd, rfl, hid⟩ := hp.st.d.at hDb
  obtain ⟨gv, capv, rfl⟩ := own_some hp.st.v (by omega)
  obtain ⟨bm, om, ha, hbml, hcm⟩ := md_cell hp.sh hkn
  have hcv : w.cell? ⟨gv, kn, none⟩ = some (.int .i64 (vl[kn]'hkl)) := by
    have hc := World.ownsRow.cells hp.st.v (g := gv) rfl kn (.int .i64 (vl[kn]'hkl)) (by rw [List.getElem?_map, List.getElem?_eq_getElem hkl]; rfl)
    rwa [addr0] at hc
  obtain ⟨v, hv⟩ : ∃ v, v = vl[kn]'hkl := ⟨_, rfl⟩
  rw [← hv] at hcv hv0
  have HV := Lib.hid hv0
  have HD := Lib.hid hdn
  have HID := Lib.hid hid
  have HA := Lib.hid ha
  have hgl := (World.ownsRow.lt hp.st.v gv rfl).2
  obtain ⟨mk, hmk⟩ : ∃ mk, mk = s.mdI (kn : Int) := ⟨_, rfl⟩
  rw [← hmk] at hcm
  have HMK := Lib.hid hmk
  have hvlen : ∃ VL, VL = vl.length ∧ kn < VL := ⟨_, rfl, hkl⟩
  obtain ⟨VL, hVL, hkV⟩ := hvlen
  have HVL := Lib.hid hVL
  rw [← hVL] at x2
  clear hp h1 h2 h3 hdn hk hid ha hv hvl hv0 hmk hDb hVL hkl
  obtain rfl := HA.out
  cases mk
  · go_enter Try.func72, Try.ntmps72
    go_wp2_with fail
    go_ret2
    exact H.out.same HD.out HV.out
  · have hdd : decide ((kn : Int) ∈ D) = true := by
      have h := HD.out
      unfold dnS at h
      rw [← HMK.out] at h
      simpa using h
    have HDD := Lib.hid hdd
    clear hdd
    go_enter Try.func72, Try.ntmps72
    go_wp2_with fail
    refine (has_any w _ D ad cd (kn : Int) HID.out).mono ?_
    rintro e w1 ⟨rfl, rfl⟩
    rw [HDD.out]
    go_wp2_with fail
    go_ret2
    exact H.out.same HD.out HV.out

set_option maxHeartbeats 1000000 in
theorem ko_circ (hp : KoPre S s l q B a c a' c' vv dv uv vl D U k w) (hdn : dnS s D k = false) (hU : k ∈ U) :
    Calls Try.prog 72 #[.pointer (some ⟨q, 0, none⟩), .int .i64 k] w (KoPost s l q B a c a' c' vv dv uv D U k w) := by
  have H := Lib.hid hp
  obtain ⟨x0, x1, x2, x3, x4, _⟩ := Blk.five hp.st.bd
  obtain ⟨h1, h2, h3⟩ := inOk_of hp.inn
  have hlm : s.m.length ≤ 10 := (Sh.ok_iff.1 h1).1
  have hmk : s.mdI k = true := by
    unfold dnS at hdn
    rw [Bool.or_eq_false_iff] at hdn
    simpa using hdn.1
  have hkD : decide (k ∈ D) = false := by
    unfold dnS at hdn
    rw [Bool.or_eq_false_iff] at hdn
    exact hdn.2
  obtain ⟨kn, rfl⟩ : ∃ kn : Nat, k = kn := ⟨k.toNat, by have := hp.k0; omega⟩
  have hkn : kn < s.m.length := by have := (mdI_bd hmk).2; omega
  have hDb : ∀ x ∈ D, i64ok x := fun x hx => by have := mdI_bd (hp.dok.md x hx); unfold i64ok; omega
  have hUb : ∀ x ∈ U, i64ok x := fun x hx => by have := hp.undB x hx; unfold i64ok; omega
  obtain ⟨ad, cd, rfl, hid⟩ := hp.st.d.at hDb
  obtain ⟨au, cu, rfl, hiu⟩ := hp.st.u.at hUb
  obtain ⟨bm, om, ha, hbml, hcm⟩ := md_cell hp.sh hkn
  rw [hmk] at hcm
  have HNO := Lib.hid (hp.hyp.not hU)
  have HKD := Lib.hid hkD
  have HUU := Lib.hid (decide_eq_true hU)
  have HID := Lib.hid hid
  have HIU := Lib.hid hiu
  have HA := Lib.hid ha
  clear hp h1 h2 h3 hdn hid hiu ha hmk hDb hUb hkD hU
  obtain rfl := HA.out
  go_enter Try.func72, Try.ntmps72
  go_wp2_with fail
  refine (has_any w _ D ad cd (kn : Int) HID.out).mono ?_
  rintro e w1 ⟨rfl, rfl⟩
  rw [HKD.out]
  go_wp2_with fail
  refine (has_any w _ U au cu (kn : Int) HIU.out).mono ?_
  rintro e w1 ⟨rfl, rfl⟩
  rw [HUU.out]
  go_wp2_with fail
  go_ret2
  exact ⟨_, _, _, _, 0, false, rfl, H.out.st, Fr.of_below (Below.refl _ _), fun _ hb => .inl hb, fun _ hb => .inl hb, .inr ⟨rfl, HNO.out⟩⟩
end
end Go.Proofs.Ytklmpagpkeffjaa

/- spec.l4Once.key: a key that is made, not done, and not under way -/
namespace Go.Proofs.Ytklmpagpkeffjaa
open Go.RowKit

/-- Where the loop over fetches stands. -/
def KoRel (s : Sh) (l : List Int) (q B : Nat) (a : Option Addr) (c : Nat) (a' : Option Addr) (c' : Nat) (vv dv uv : Value) (D U : List Int) (kn : Nat) (w : World) (vg vx vy vb : Value) (wr : World) : Prop :=
  ∃ (m : Nat) (x y : Int) (b : Bool) (dv2 uv2 : Value) (vl2 D2 X : List Int), m ≤ (chS s l kn).length ∧ vx = .int .i64 x ∧ vy = .int .i64 y ∧ vb = .bool b ∧ (∀ j ∈ (chS s l kn).take m, dnS s D2 j = true) ∧
    NumRow wr B vg (((chS s l kn).take m).map (vsS s l)) ∧ OnSt wr q B s a c a' c' vv dv2 uv2 vl2 D2 (U ++ [(kn : Int)]) ∧ (∀ b, vg.ownBlock = some b → w.heap.size ≤ b ∧ ¬ oB q vv dv2 uv2 b) ∧ Fr (oB q vv dv uv) w wr ∧
    (∀ b, dv2.ownBlock = some b → dv.ownBlock = some b ∨ w.heap.size ≤ b) ∧ (∀ b, uv2.ownBlock = some b → uv.ownBlock = some b ∨ w.heap.size ≤ b) ∧ DOk s l vl2 D2 ∧ D2 = D ++ X ∧ (okS s l kn = true → ∀ y ∈ X, rkV s.mdI s.tkI (vf l) y < rkV s.mdI s.tkI (vf l) kn) ∧
    (∀ q' o m', Ends emS (chS s l) (dnS s D2) ((kn : Int) :: q') o m' → ∃ m'', Ends emS (chS s l) (dnS s D) ((kn : Int) :: q') (X ++ o) m'') ∧
    ((b = true ∧ m = (chS s l kn).length ∧ x = (s.tkI kn).val (vsS s l)) ∨ (b = false ∧ m < (chS s l kn).length ∧ (chS s l kn)[m]? = some y))

section
variable {S : Nat → Prop} {s : Sh} {l : List Int} {q B : Nat} {a : Option Addr} {c : Nat} {a' : Option Addr} {c' : Nat} {vv dv uv : Value} {vl D U : List Int} {w : World}

/-- A key under way is not done. -/
theorem ko_not {kn : Nat} {D2 X vl2 : List Int} (hd : dnS s D kn = false) (hok : DOk s l vl2 D2) (hX : D2 = D ++ X) (hr : okS s l kn = true → ∀ y ∈ X, rkV s.mdI s.tkI (vf l) y < rkV s.mdI s.tkI (vf l) kn) : dnS s D2 kn = false := by
  cases hx : dnS s D2 (kn : Int)
  · rfl
  · exfalso
    have h := hr (hok.hi _ hx)
    unfold dnS at hx hd
    rw [Bool.or_eq_false_iff] at hd
    rw [hd.1, Bool.false_or, decide_eq_true_eq, hX, List.mem_append] at hx
    rcases hx with hx | hx
    · rw [decide_eq_true hx] at hd; cases hd.2
    · have := h _ hx; omega

/-- A key that it hangs on is done: so much more is told. -/
theorem ko_child {kn m : Nat} {y : Int} {D2 D3 X X' : List Int} (hg : Gr s.m.length (chS s l) (fun k => !s.mdI k) (okS s l) (rkV s.mdI s.tkI (vf l))) (hmk : s.mdI (kn : Int) = true) (hkd : dnS s D2 kn = false) (hdn : ∀ j ∈ (chS s l kn).take m, dnS s D2 j = true) (hy : (chS s l kn)[m]? = some y)
    (hX : D2 = D ++ X) (hX' : D3 = D2 ++ X') (hr : okS s l kn = true → ∀ z ∈ X, rkV s.mdI s.tkI (vf l) z < rkV s.mdI s.tkI (vf l) kn) (hr' : ∀ z ∈ X', rkV s.mdI s.tkI (vf l) z ≤ rkV s.mdI s.tkI (vf l) y) (hv : Visit emS (chS s l) (dnS s D2) y X' (dnS s D3))
    (hs : ∀ q' o m', Ends emS (chS s l) (dnS s D2) ((kn : Int) :: q') o m' → ∃ m'', Ends emS (chS s l) (dnS s D) ((kn : Int) :: q') (X ++ o) m'') :
    D3 = D ++ (X ++ X') ∧ (okS s l kn = true → ∀ z ∈ X ++ X', rkV s.mdI s.tkI (vf l) z < rkV s.mdI s.tkI (vf l) kn) ∧ (∀ q' o m', Ends emS (chS s l) (dnS s D3) ((kn : Int) :: q') o m' → ∃ m'', Ends emS (chS s l) (dnS s D) ((kn : Int) :: q') ((X ++ X') ++ o) m'') := by
  refine ⟨by rw [hX', hX, List.append_assoc], fun hok z hz => ?_, fun q' o m' he => ?_⟩
  · rw [List.mem_append] at hz
    rcases hz with hz | hz
    · exact hr hok z hz
    · have h1 := hr' z hz
      have h2 := (hg.down (kn : Int) hok (by simp only [hmk]; rfl) y (List.mem_of_getElem? hy)).2
      omega
  · obtain ⟨m1, h1⟩ := hv ((kn : Int) :: q') o m' he
    have h2 : ∃ m2, Ends emS (chS s l) (dnS s D2) ((kn : Int) :: q') (X' ++ o) m2 := by
      cases hyd : dnS s D2 y
      · have hn : nxt (chS s l) (dnS s D2) (kn : Int) = some y := find_at hdn hy hyd
        exact ⟨_, Ends.more (em := emS) hkd hn h1⟩
      · obtain ⟨m2, _, h2⟩ := h1.inv_skip hyd
        exact ⟨m2, h2⟩
    obtain ⟨m2, h2⟩ := h2
    rw [List.append_assoc]
    exact hs q' _ m2 h2

/-- What is under is cut back. -/
theorem OnSt.cut {au : Option Addr} {cu : Nat} {k : Int} {D2 : List Int} {dv2 : Value} {vl2 : List Int} (h : OnSt w q B s a c a' c' vv dv2 (.slice au (U.length + 1) cu) vl2 D2 (U ++ [k])) : OnSt (w.setCell ⟨q, 4, none⟩ (.slice au U.length cu)) q B s a c a' c' vv dv2 (.slice au U.length cu) vl2 D2 U := by
  have hfq : Fr (fun b => b = q) w (w.setCell ⟨q, 4, none⟩ (.slice au U.length cu)) := Fr.set' (D := fun b => b = q) (Fr.of_below (Below.refl _ _)) ⟨q, 4, none⟩ rfl _
  have hrow := h.u
  obtain ⟨g, cap, he⟩ := own_some hrow (by simp)
  obtain ⟨rfl, rfl⟩ : au = some ⟨g, 0, none⟩ ∧ cu = cap := by simpa using he
  have h2 := ElRow.take (f := Value.int .i64) (e := 3) hrow U.length (by simp)
  rw [List.take_left] at h2
  exact ⟨h.bd.set_ 4 _, num_fr h.v hfq (fun b hb e => h.nqv (by rw [← e]; exact hb)), num_fr h.d hfq (fun b hb e => h.nqd (by rw [← e]; exact hb)), num_fr (show NumRow w B (.slice (some ⟨g, 0, none⟩) U.length cu) U from h2) hfq (fun b hb e => h.nqu (by rw [← e]; exact hb)), h.nqv, h.nqd, h.nqu, h.nvd, h.nvu, h.ndu⟩
theorem own_cut {au : Option Addr} {n n' cu b : Nat} (h : (Value.slice au n cu).ownBlock = some b) : (Value.slice au n' cu).ownBlock = some b := by cases au <;> exact h
theorem OnSt.drew (h : OnSt w q B s a c a' c' vv dv uv vl D U) : OnSt w.drew q B s a c a' c' vv dv uv vl D U := h.below (Below.refl _ _).drew

/-- All that the key hangs on is done: it is done too. -/
theorem ko_done {kn : Nat} {D2 X vl2 : List Int} (h1 : s.ok = true) (hkn : kn < l.length) (hmk : s.mdI (kn : Int) = true) (hdn : dnS s D kn = false) (hok : DOk s l vl2 D2) (hX : D2 = D ++ X) (hr : okS s l kn = true → ∀ y ∈ X, rkV s.mdI s.tkI (vf l) y < rkV s.mdI s.tkI (vf l) kn) (hall : ∀ j ∈ chS s l kn, dnS s D2 j = true)
    (hs : ∀ q' o m', Ends emS (chS s l) (dnS s D2) ((kn : Int) :: q') o m' → ∃ m'', Ends emS (chS s l) (dnS s D) ((kn : Int) :: q') (X ++ o) m'') :
    okS s l kn = true ∧ (s.tkI kn).val (vsS s l) = vsS s l kn ∧ DOk s l (vl2.set kn (vsS s l kn)) (D2 ++ [(kn : Int)]) ∧ dnS s (D2 ++ [(kn : Int)]) kn = true ∧
      ∃ X', D2 ++ [(kn : Int)] = D ++ X' ∧ (∀ y ∈ X', rkV s.mdI s.tkI (vf l) y ≤ rkV s.mdI s.tkI (vf l) kn) ∧ Visit emS (chS s l) (dnS s D) kn X' (dnS s (D2 ++ [(kn : Int)])) := by
  have hkd := ko_not hdn hok hX hr
  have hokk : okS s l kn = true := (gr_S h1 l).up (kn : Int) (fun j hj => hok.hi j (hall j hj))
  have hkn2 : kn < vl2.length := by rw [hok.vals.1]; exact hkn
  have hknD : ¬ (kn : Int) ∈ D2 := fun hm => by
    unfold dnS at hkd
    rw [decide_eq_true hm, Bool.or_true] at hkd
    cases hkd
  refine ⟨hokk, (vsS_made h1 hmk hokk).symm, ⟨fun x hx => ?_, ?_, fun x hx => ?_, ?_, fun y hy => ?_⟩, ?_, X ++ [(kn : Int)], by rw [hX, List.append_assoc], fun y hy => ?_, fun q' o m' he => ?_⟩
  · rw [List.mem_append, List.mem_singleton] at hx
    rcases hx with hx | rfl
    · exact hok.md x hx
    · exact hmk
  · rw [List.nodup_append]
    refine ⟨hok.nod, by simp, fun x hx y hy => ?_⟩
    rw [List.mem_singleton] at hy
    subst hy
    rintro rfl
    exact hknD hx
  · rw [dnS_snoc] at hx
    unfold upd at hx
    rw [Bool.or_eq_true] at hx
    rcases hx with hx | hx
    · exact hok.hi x hx
    · rw [of_decide_eq_true hx]; exact hokk
  · rw [List.length_set]; exact hok.vals.1
  · rw [vf_set hkn2 _ y hy, dnS_snoc]
    unfold upd
    by_cases hyk : y = (kn : Int)
    · subst hyk
      rw [if_pos rfl]; simp
    · rw [if_neg hyk, decide_eq_false hyk, Bool.or_false]
      exact hok.vals.2 y hy
  · rw [dnS_snoc]; unfold upd; simp
  · rw [List.mem_append, List.mem_singleton] at hy
    rcases hy with hy | rfl
    · exact Nat.le_of_lt (hr hokk y hy)
    · exact Nat.le_refl _
  · rw [dnS_snoc] at he
    have hn : nxt (chS s l) (dnS s D2) (kn : Int) = none := by
      unfold nxt
      rw [List.find?_eq_none]
      intro j hj
      rw [hall j hj]; simp
    obtain ⟨m2, h2⟩ := hs q' _ _ (Ends.fin (em := emS) hkd hn he)
    refine ⟨m2, ?_⟩
    rw [List.append_assoc]
    exact h2

set_option maxRecDepth 100000 in
set_option maxHeartbeats 3000000 in
theorem ko_main {kn r : Nat} (hIH : KoT S s l q B a c a' c' vv r) (hr : U.length + (r + 1) = s.m.length + 1) (hp : KoPre S s l q B a c a' c' vv dv uv vl D U (kn : Int) w) (hdn : dnS s D (kn : Int) = false) (hU : ¬ (kn : Int) ∈ U) :
    Calls Try.prog 72 #[.pointer (some ⟨q, 0, none⟩), .int .i64 (kn : Int)] w (KoPost s l q B a c a' c' vv dv uv D U kn w) := by
  have H := Lib.hid hp
  obtain ⟨x0, x1, x2, x3, x4, hfz⟩ := Blk.five hp.st.bd
  have f4 := hfz 4
  obtain ⟨h1, h2, h3⟩ := inOk_of hp.inn
  have hlm : s.m.length ≤ 10 := (Sh.ok_iff.1 h1).1
  have htl : s.t.length = s.m.length := (Sh.ok_iff.1 h1).2.1
  have hmk : s.mdI (kn : Int) = true := by
    have h := hdn
    unfold dnS at h
    rw [Bool.or_eq_false_iff] at h
    simpa using h.1
  have hkD : decide ((kn : Int) ∈ D) = false := by
    have h := hdn
    unfold dnS at h
    rw [Bool.or_eq_false_iff] at h
    exact h.2
  have hkn : kn < s.m.length := by have := (mdI_bd hmk).2; omega
  have hDb : ∀ x ∈ D, i64ok x := fun x hx => by have := mdI_bd (hp.dok.md x hx); unfold i64ok; omega
  have hUb : ∀ x ∈ U, i64ok x := fun x hx => by have := hp.undB x hx; unfold i64ok; omega
  have hUl := hp.undL
  have hDl := hp.dLen
  obtain ⟨ad, cd, rfl, hid⟩ := hp.st.d.at hDb
  obtain ⟨au, cu, rfl, hiu⟩ := hp.st.u.at hUb
  obtain ⟨bm, om, ha, hbml, hcm⟩ := md_cell hp.sh hkn
  rw [hmk] at hcm
  have hql : q < w.heap.size := hp.st.bd.lt
  have HKD := Lib.hid hkD
  have HUU := Lib.hid (decide_eq_false hU)
  have HU := Lib.hid hU
  have HID := Lib.hid hid
  have HIU := Lib.hid hiu
  have HA := Lib.hid ha
  have HMK := Lib.hid hmk
  have HDN := Lib.hid hdn
  have HOK := Lib.hid h1
  have HIN := Lib.hid hp.inn
  have HIH := Lib.hid hIH
  have HR := Lib.hid hr
  have HTL := Lib.hid htl
  have hB := hp.hB
  have hur : w.ownsRow B 3 1 (.slice au U.length cu) U.length (U.map (Value.int .i64)) := hp.st.u
  have HUR := Lib.hid hur
  clear hp h1 h2 h3 hdn hid hiu ha hmk hDb hUb hkD hU hIH hr htl hfz hur
  obtain rfl := HA.out
  obtain ⟨iN, ni, nz0, nz1, nz2⟩ := info_parts infoInt
  have HIN2 := Lib.hid (And.intro ni (And.intro nz0 (And.intro nz1 nz2)))
  have hmle : maxLen = 9223372036854775807 := rfl
  have HML := Lib.hid hmle
  clear ni nz0 nz1 nz2 hmle
  go_enter Try.func72, Try.ntmps72
  go_wp2_with fail
  refine (has_any w _ D ad cd (kn : Int) HID.out).mono ?_
  rintro e w1 ⟨rfl, rfl⟩
  rw [HKD.out]
  go_wp2_with fail
  refine (has_any w _ U au cu (kn : Int) HIU.out).mono ?_
  rintro e w1 ⟨rfl, rfl⟩
  rw [HUU.out]
  go_wp2_with (at_builtin; refine wpList_append_row _ rfl (.tmp 54) (.tmp 56) 30 rfl B 3 iN (.int .i64 0) 1 8 Try.underlying30 HIN2.out.1 HIN2.out.2.1 HIN2.out.2.2.1 HIN2.out.2.2.2 rfl (by decide) _ U.length (U.map (.int .i64)) rfl (World.ownsRow.alloc HUR.out _) ⟨w.heap.size, 0, none⟩ 1 1 [.int .i64 (kn : Int)] rfl rfl ?d1 ?d2 (by decide) ?d3 ?d4 ?d5 ?_)
  case d1 => exact news1 _ _ _
  case d2 => simp [Value.oneCell']
  case d3 => rw [HML.out]; omega
  case d4 => omega
  case d5 => simp; omega
  intro uv2 w3 hown hgr hnew
  have hs3 := hgr.size
  simp only [World.size_alloc] at hs3
  have hf3 : Fr (fun b => (Value.slice au U.length cu).ownBlock = some b) w w3 := (show Fr (fun b => (Value.slice au U.length cu).ownBlock = some b) w _ from Fr.of_below ((Below.refl w.heap.size w).alloc (Nat.le_refl _) (.cells #[.int .i64 (kn : Int)] 3))).trans (gr_fr hgr) (fun b hb => .inl hb)
  have hu3 : NumRow w3 B uv2 (U ++ [(kn : Int)]) := by
    unfold NumRow
    rw [List.map_append, List.length_append]
    exact hown
  have hnew2 : ∀ b, uv2.ownBlock = some b → (Value.slice au U.length cu).ownBlock = some b ∨ w.heap.size ≤ b := fun b hb => (hnew b hb).imp id (fun h => by first | omega | (simp at h; omega))
  obtain ⟨au2, cu2, rfl, _⟩ := ElRow.at (f := Value.int .i64) (e := 3) hu3
  have hul : (U ++ [(kn : Int)]).length = U.length + 1 := by simp
  rw [hul] at hu3 hnew2 ⊢
  have hst4 := H.out.st.setU hf3 hu3 hnew2
  have hbd3 := H.out.st.bd.fr hf3 H.out.st.nqu
  obtain ⟨y0, y1, y2, y3, y4, hfz⟩ := Blk.five hbd3
  have g4 := hfz 4
  have hq3 : q < w3.heap.size := hbd3.lt
  have hufo : ∀ b, (Value.slice au U.length cu).ownBlock = some b → B ≤ b := fun b hb => (World.ownsRow.lt H.out.st.u b hb).1
  have hts : AtS w3 S s.t a' c' := H.out.sh.2.fr hf3 (fun b hb h => by have := H.out.lo b hb; have := hufo b h; omega)
  have hkt : kn < s.t.length := by have := HTL.out; omega
  obtain ⟨b', o', a2, c2, rfl, hbl', hSb', e0, e1, e2, hat, _, _⟩ := hts.elem (Below.refl _ _) hkt
  have hb'q : b' < q := by have := H.out.lo b' hSb'; omega
  have htk : s.t[kn] = s.tkI (kn : Int) := by unfold Sh.tkI; rw [Int.toNat_natCast]; exact (getD_len hkt).symm
  rw [htk] at hat e0 e1 e2
  have hfq : Fr (fun b => b = q) w3 (w3.setCell ⟨q, 4, none⟩ (.slice au2 (U.length + 1) cu2)) := Fr.set' (D := fun b => b = q) (Fr.of_below (Below.refl _ _)) ⟨q, 4, none⟩ rfl _
  have hfr4 : Fr (oB q vv (.slice ad D.length cd) (.slice au U.length cu)) w (w3.setCell ⟨q, 4, none⟩ (.slice au2 (U.length + 1) cu2)) := (hf3.weaken (fun b hb => .inr (.inr (.inr hb)))).trans hfq (fun b hb => .inl (.inl hb))
  have hat4 : AtS (w3.setCell ⟨q, 4, none⟩ (.slice au2 (U.length + 1) cu2)) S (s.tkI (kn : Int)).ps a2 c2 := hat.setCell (fun b hb => by have := H.out.lo b hb; simp; omega) _
  have hsz : (w3.setCell ⟨q, 4, none⟩ (.slice au2 (U.length + 1) cu2)).heap.size = w3.heap.size := by simp [World.setCell]
  have hg4 := rowN_new (w3.setCell ⟨q, 4, none⟩ (.slice au2 (U.length + 1) cu2))
  have hvb := vsS_bd HIN.out
  have HNX := Lib.hid (fun (m : Nat) => next_any (vsS s l) hvb (s.tkI (kn : Int)) (tkI_fit HOK.out _) m)
  have HVB := Lib.hid hvb
  have H4 := Lib.hid (And.intro hst4 (And.intro hfr4 hnew2))
  have HAT4 := Lib.hid hat4
  have HTK := Lib.hid htk
  clear hown hgr hnew hf3 hu3 hnew2 hst4 hbd3 hfz x0 x1 x2 x3 x4 f4 hcm hul hufo hts hat htk hfq hfr4 hat4 hvb HUR HID HIU HA
  go_wp2_with fail
  obtain ⟨W, hW⟩ : ∃ W, W = w3.setCell ⟨q, 4, none⟩ (.slice au2 (U.length + 1) cu2) := ⟨_, rfl⟩
  rw [← hW] at H4 HAT4 hsz hg4 ⊢
  rw [hsz] at hg4
  have HG4 := Lib.hid hg4
  have HSZ := Lib.hid hsz
  clear hW hsz hg4 y0 y1 y2 y3 y4 g4 e0 e1 e2
  refine (HNX.out 0 (Nat.zero_le _) _ S (fun _ => True) a2 _ c2 0 (HAT4.out.alloc _) (IntsAt.nil (by omega))).mono ?_
  intro e w5 hp
  obtain ⟨x, y, bb, rfl, hb, hcase⟩ := hp.both
  have hlt4 := H4.out.1.lt
  have HLT4 := Lib.hid hlt4
  have hrel : KoRel s l q B (some ⟨bm, om, none⟩) c (some ⟨b', o', none⟩) c' vv (.slice ad D.length cd) (.slice au U.length cu) D U kn w (.slice (some ⟨w3.heap.size, 0, none⟩) 0 0) (.int .i64 x) (.int .i64 y) (.bool bb) w5 := by
    have hs4 := HSZ.out
    refine ⟨0, x, y, bb, _, _, vl, D, [], Nat.zero_le _, rfl, rfl, rfl, by simp, ownsRow_low (ElRow.below (f := Value.int .i64) (e := 3) HG4.out hb) (by omega), (H4.out.1.alloc _).below hb, fun b hb => ?_, ?_, fun _ h => .inl h, H4.out.2.2, H.out.dok, by simp, fun _ y hy => by simp at hy, fun q' o m' h => ⟨m', h⟩, ?_⟩
    · have hbe : b = w3.heap.size := by simp [Value.ownBlock] at hb; omega
      exact ⟨by omega, fun h => by have := HLT4.out b h; omega⟩
    · exact (H4.out.2.1.trans (D' := fun _ => False) (Fr.of_below ((Below.refl _ _).alloc (Nat.le_refl _) _)) (fun b hb => hb.elim)).trans (D' := fun _ => False) (Fr.of_below hb) (fun b hb => hb.elim)
    · rcases hcase with ⟨h1, h2, h3⟩ | ⟨h1, h2, h3⟩
      · exact .inl ⟨h1, h2, h3⟩
      · exact .inr ⟨h1, h2, h3⟩
  have HREL := Lib.hid hrel
  clear hp hrel hb hcase hlt4
  go_wp2_with fail
  clear HG4 H4 HAT4
  obtain ⟨KL, hKL⟩ : ∃ n, n = (chS s l kn).length := ⟨_, rfl⟩
  go_loopw [6, 7, 8, 9] (fun vg vx vy vb wr => KoRel s l q B (some ⟨bm, om, none⟩) c (some ⟨b', o', none⟩) c' vv (.slice ad D.length cd) (.slice au U.length cu) D U kn w vg vx vy vb wr ∧ True) (fun vg _ _ _ _ => KL - slLen vg)
  case atStart => exact ⟨HREL.out, trivial⟩
  case round =>
    obtain ⟨⟨m, x, y, b2, dv3, uv3, vl3, D3, X, hm, rfl, rfl, rfl, hdn, hg, hst, hgo, hfr, hod, hou, hdok, hX, hrk, hsim, hcase⟩, _⟩ := hrel
    have hql2 : q < wr.heap.size := hst.bd.lt
    have hwsz := hfr.size
    obtain ⟨z0, z1, z2, z3, z4, hfz⟩ := Blk.five hst.bd
    have g4 := hfz 4
    have g3 := hfz 3
    have hD3l : D3.length ≤ s.m.length := nodup_bound _ D3 hdok.nod (fun x hx => mdI_bd (hdok.md x hx))
    obtain ⟨au3, cu3, hu3, hiu3⟩ := ElRow.at (f := Value.int .i64) (e := 3) hst.u
    have hul : (U ++ [(kn : Int)]).length = U.length + 1 := by simp
    rw [hul] at hu3
    have hc3 : U.length + 1 ≤ cu3 ∧ cu3 ≤ 9223372036854775807 := by
      have h5 := hiu3.1; have h6 := hiu3.2.1; rw [hul] at h5; omega
    obtain ⟨ad3, cd3, hd3, _⟩ := ElRow.at (f := Value.int .i64) (e := 3) hst.d
    subst hu3 hd3
    have HKL := Lib.hid hKL
    have H5 := Lib.hid (And.intro hdn (And.intro hg (And.intro hst (And.intro hgo (And.intro hfr (And.intro hod (And.intro hou (And.intro hdok (And.intro hX (And.intro hrk hsim))))))))))
    have HM := Lib.hid hm
    clear HREL hdn hg hst hgo hfr hod hou hdok hX hrk hsim hiu3 hul hm hKL hfz
    rcases hcase with ⟨rfl, hmK, hx⟩ | ⟨rfl, hlt, hky⟩
    · have hall : ∀ j ∈ chS s l kn, dnS s D3 j = true := fun j hj => H5.out.1 j (by rw [List.take_of_length_le (by omega)]; exact hj)
      have hknl : kn < l.length := by have := (inOk_of HIN.out).2.1; omega
      obtain ⟨hokk, hval, hdok2, hdk, X2, hX2, hrk2, hvis⟩ := ko_done HOK.out hknl HMK.out HDN.out H5.out.2.2.2.2.2.2.2.1 H5.out.2.2.2.2.2.2.2.2.1 H5.out.2.2.2.2.2.2.2.2.2.1 hall H5.out.2.2.2.2.2.2.2.2.2.2
      have hx2 : x = vsS s l kn := by rw [hx]; exact hval
      have HF := Lib.hid (And.intro hokk (And.intro hx2 (And.intro hdok2 (And.intro hdk (And.intro hX2 (And.intro hrk2 hvis))))))
      have hvll : vl3.length = l.length := H5.out.2.2.2.2.2.2.2.1.vals.1
      have hknv : kn < vl3.length := by omega
      obtain ⟨gv, capv, hgv⟩ := own_some H5.out.2.2.1.v (by omega)
      subst hgv
      clear hall hokk hval hdok2 hdk hX2 hrk2 hvis hx2 hmK hx
      go_wp2_with fail
      go_region
      have hcut := H5.out.2.2.1.cut.drew
      obtain ⟨W1, hW1⟩ : ∃ W, W = (wr.setCell ⟨q, 4, none⟩ (.slice au3 U.length cu3)).drew := ⟨_, rfl⟩
      have hfr1 : Fr (oB q (.slice (some ⟨gv, 0, none⟩) vl3.length capv) (.slice ad D.length cd) (.slice au U.length cu)) w W1 := by
        rw [hW1]
        exact (H5.out.2.2.2.2.1.set' ⟨q, 4, none⟩ (.inl rfl) _).trans (D' := fun _ => False) (Fr.of_below (Below.refl _ _).drew) (fun b hb => hb.elim)
      rw [← hW1] at hcut ⊢
      have hs1 : W1.heap.size = wr.heap.size := by rw [hW1]; simp [World.setCell]
      obtain ⟨t0, t1, t2, t3, t4, hfz⟩ := Blk.five hcut.bd
      have f3 := hfz 3
      have hcv : W1.cell? ⟨gv, kn, none⟩ = some (.int .i64 (vl3[kn]'hknv)) := by
        have hc := World.ownsRow.cells hcut.v (g := gv) rfl kn (.int .i64 (vl3[kn]'hknv)) (by rw [List.getElem?_map, List.getElem?_eq_getElem hknv]; rfl)
        rwa [addr0] at hc
      obtain ⟨ov, hov⟩ : ∃ ov, ov = Value.int .i64 (vl3[kn]'hknv) := ⟨_, rfl⟩
      rw [← hov] at hcv
      obtain ⟨csv, hbv⟩ := num_blk hcut.v
      have hfv := hbv.frozen kn
      have hgl := hbv.lt
      have hgq : gv ≠ q := fun e => hcut.nqv (by rw [e]; rfl)
      have hql1 : q < W1.heap.size := hcut.bd.lt
      have hset := hcut.setV kn x
      have hsz : (W1.setCell ⟨gv, kn, none⟩ (.int .i64 x)).heap.size = W1.heap.size := by simp [World.setCell]
      have hrow8 : (W1.setCell ⟨gv, kn, none⟩ (.int .i64 x)).ownsRow B 3 1 (.slice ad3 D3.length cd3) D3.length (D3.map (Value.int .i64)) := hset.d
      have HROW8 := Lib.hid hrow8
      have hfr2 := hfr1.set' ⟨gv, kn, none⟩ (.inr (.inl rfl)) (.int .i64 x)
      have HS := Lib.hid (And.intro hset hfr2)
      have HS1 := Lib.hid hs1
      clear hcut hfz hov hbv hset hrow8 hfr1 hfr2 hW1 z0 z1 z2 z3 z4 g3 g4 hs1
      go_wp2_with (at_builtin; refine wpList_append_row _ rfl (.tmp 130) (.tmp 132) 30 rfl B 3 iN (.int .i64 0) 1 8 Try.underlying30 HIN2.out.1 HIN2.out.2.1 HIN2.out.2.2.1 HIN2.out.2.2.2 rfl (by decide) _ D3.length (D3.map (Value.int .i64)) rfl (World.ownsRow.alloc HROW8.out _) _ 1 1 [.int .i64 (kn : Int)] rfl rfl ?h1 ?h2 (by decide) ?h3 ?h4 ?h5 ?_)
      case h1 => first | exact news1 _ _ _ | (have h := news1 (W1.setCell ⟨gv, kn, none⟩ (.int .i64 x)) 3 (.int .i64 (kn : Int)); rw [hsz] at h; exact h)
      case h2 => simp [Value.oneCell']
      case h3 => rw [HML.out]; omega
      case h4 => omega
      case h5 => simp [hsz]; omega
      intro dv9 w9 hown hgr hnew
      have hr9 : NumRow w9 B dv9 (D3 ++ [(kn : Int)]) := by
        unfold NumRow
        rw [List.map_append, List.length_append]
        exact hown
      have hf9 : Fr (fun b => (Value.slice ad3 D3.length cd3).ownBlock = some b) (W1.setCell ⟨gv, kn, none⟩ (.int .i64 x)) w9 := (Fr.of_below (D := fun b => (Value.slice ad3 D3.length cd3).ownBlock = some b) ((Below.refl (W1.setCell ⟨gv, kn, none⟩ (.int .i64 x)).heap.size (W1.setCell ⟨gv, kn, none⟩ (.int .i64 x))).alloc (Nat.le_refl _) (.cells #[.int .i64 (kn : Int)] 3))).trans (gr_fr hgr) (fun b hb => .inl hb)
      have hn9 : ∀ b, dv9.ownBlock = some b → (Value.slice ad3 D3.length cd3).ownBlock = some b ∨ (W1.setCell ⟨gv, kn, none⟩ (.int .i64 x)).heap.size ≤ b := fun b hb => (hnew b hb).imp id (fun h => by rw [hsz]; first | omega | (simp [hsz] at h; omega))
      obtain ⟨ad9, cd9, rfl, _⟩ := ElRow.at (f := Value.int .i64) (e := 3) hr9
      have hst9 := HS.out.1.setD hf9 hr9 hn9
      have hbd9 := HS.out.1.bd.fr hf9 HS.out.1.nqd
      obtain ⟨t0, t1, t2, t3, t4, hfz⟩ := Blk.five hbd9
      have f39 := hfz 3
      have hq9 : q < w9.heap.size := hbd9.lt
      have hfr9 := (HS.out.2.trans hf9 (fun b hb => by
        rcases H5.out.2.2.2.2.2.1 b hb with h | h
        · exact .inl (.inr (.inr (.inl h)))
        · exact .inr h)).set' ⟨q, 3, none⟩ (.inl rfl) (.slice ad9 (D3 ++ [(kn : Int)]).length cd9)
      have hgd : ∀ b, (Value.slice ad9 (D3 ++ [(kn : Int)]).length cd9).ownBlock = some b → (Value.slice ad D.length cd).ownBlock = some b ∨ w.heap.size ≤ b := fun b hb => by
        rcases hn9 b hb with h | h
        · exact H5.out.2.2.2.2.2.1 b h
        · rw [hsz, HS1.out] at h; exact .inr (by omega)
      have H9 := Lib.hid (And.intro hst9 (And.intro hfr9 hgd))
      have hlen9 : (D3 ++ [(kn : Int)]).length = D3.length + 1 := by simp
      rw [hlen9] at H9 ⊢
      clear hown hgr hnew hr9 hf9 hn9 hst9 hbd9 hfz hfr9 hgd hlen9 hcv hfv HS HROW8 f3
      go_wp2_with fail
      go_ret2
      exact ⟨_, .slice au3 U.length cu3, vl3.set kn x, D3 ++ [(kn : Int)], x, true, rfl, H9.out.1, H9.out.2.1, H9.out.2.2, fun b hb => H5.out.2.2.2.2.2.2.1 b (own_cut hb), .inl ⟨rfl, HF.out.1, HF.out.2.1, by rw [HF.out.2.1]; exact HF.out.2.2.1, HF.out.2.2.2.1, X2, HF.out.2.2.2.2⟩⟩
    · have hyK : y ∈ chS s l kn := List.mem_of_getElem? hky
      have hyb := (T.kys_bd (vsS s l) (s.tkI (kn : Int)) (tkI_fit HOK.out _)).1 y hyK
      have hge := H.out.st.ge hB
      have hsh : ShAt wr S s (some ⟨bm, om, none⟩) c (some ⟨b', o', none⟩) c' := H.out.sh.fr H5.out.2.2.2.2.1 (fun b hb h => by have := H.out.lo b hb; have := hge b h; omega)
      have hpre : KoPre S s l q B (some ⟨bm, om, none⟩) c (some ⟨b', o', none⟩) c' vv (.slice ad3 D3.length cd3) (.slice au3 (U.length + 1) cu3) vl3 D3 (U ++ [(kn : Int)]) y wr :=
        ⟨HIN.out, hsh, H.out.lo, hB, H5.out.2.2.1, H5.out.2.2.2.2.2.2.2.1, hyb.1, hyb.2, H.out.hyp.next (gr_S HOK.out l) (by simp only [HMK.out]; rfl) hyK, by
          rw [List.nodup_append]
          refine ⟨H.out.nod, by simp, fun x hx z hz => ?_⟩
          rw [List.mem_singleton] at hz
          subst hz
          rintro rfl
          exact HU.out hx⟩
      have HKY := Lib.hid (And.intro hlt hky)
      have HIHC := Lib.hid (HIH.out _ _ vl3 D3 (U ++ [(kn : Int)]) y wr (by rw [List.length_append, List.length_singleton]; have := HR.out; omega) hpre)
      clear hyK hyb hpre hlt hky hge hsh
      go_wp2_with fail
      refine HIHC.out.mono ?_
      rintro e w5 ⟨dv4, uv4, vl4, D4, v4, b4, rfl, hst4, hfr4, hod4, hou4, hor⟩
      have hs5 := hfr4.size
      have hq5 : q < w5.heap.size := hst4.bd.lt
      obtain ⟨au4, cu4, hu4, hiu4⟩ := ElRow.at (f := Value.int .i64) (e := 3) hst4.u
      have hul : (U ++ [(kn : Int)]).length = U.length + 1 := by simp
      rw [hul] at hu4
      have hc4 : U.length + 1 ≤ cu4 ∧ cu4 ≤ 9223372036854775807 := by
        have h5 := hiu4.1; have h6 := hiu4.2.1; rw [hul] at h5; omega
      subst hu4
      have hge3 := H5.out.2.2.1.ge hB
      have hfr5 : Fr (oB q vv (.slice ad D.length cd) (.slice au U.length cu)) w w5 := H5.out.2.2.2.2.1.trans hfr4 (fun b hb => by
        rcases hb with hb | hb | hb | hb
        · exact .inl (.inl hb)
        · exact .inl (.inr (.inl hb))
        · rcases H5.out.2.2.2.2.2.1 b hb with h | h
          · exact .inl (.inr (.inr (.inl h)))
          · exact .inr h
        · rcases H5.out.2.2.2.2.2.2.1 b hb with h | h
          · exact .inl (.inr (.inr (.inr h)))
          · exact .inr h)
      have hod5 : ∀ b, dv4.ownBlock = some b → (Value.slice ad D.length cd).ownBlock = some b ∨ w.heap.size ≤ b := fun b hb => by
        rcases hod4 b hb with h | h
        · exact H5.out.2.2.2.2.2.1 b h
        · exact .inr (by omega)
      have hou5 : ∀ b, (Value.slice au4 (U.length + 1) cu4).ownBlock = some b → (Value.slice au U.length cu).ownBlock = some b ∨ w.heap.size ≤ b := fun b hb => by
        rcases hou4 b hb with h | h
        · exact H5.out.2.2.2.2.2.2.1 b h
        · exact .inr (by omega)
      have H6 := Lib.hid (And.intro hst4 (And.intro hfr5 (And.intro hod5 (And.intro hou5 (And.intro hfr4 (And.intro hod4 hou4))))))
      clear hiu4 hul hfr5 hod5 hou5 hge3 hod4 hou4 HIHC z0 z1 z2 z3 z4 g3 g4
      rcases hor with ⟨rfl, hoky, hv4, hdok4, hyd4, X4, hX4, hrk4, hvis4⟩ | ⟨rfl, hnoky⟩
      · have hkd := ko_not HDN.out H5.out.2.2.2.2.2.2.2.1 H5.out.2.2.2.2.2.2.2.2.1 H5.out.2.2.2.2.2.2.2.2.2.1
        have hch := ko_child (gr_S HOK.out l) HMK.out hkd H5.out.1 HKY.out.2 H5.out.2.2.2.2.2.2.2.2.1 hX4 H5.out.2.2.2.2.2.2.2.2.2.1 hrk4 hvis4 H5.out.2.2.2.2.2.2.2.2.2.2
        have hdn4 : ∀ j ∈ (chS s l kn).take (m + 1), dnS s D4 j = true := by
          rw [take_succ_map HKY.out.2]
          intro j hj
          rw [List.mem_append, List.mem_singleton] at hj
          rcases hj with hj | rfl
          · have h := H5.out.1 j hj
            unfold dnS at h ⊢
            rw [Bool.or_eq_true, decide_eq_true_eq] at h
            rw [Bool.or_eq_true, decide_eq_true_eq]
            exact h.imp id (fun h => by rw [hX4]; exact List.mem_append_left _ h)
          · exact hyd4
        have hgo5 : NumRow w5 B u6 (((chS s l kn).take m).map (vsS s l)) := num_fr H5.out.2.1 hfr4 (fun b hb => (H5.out.2.2.2.1 b hb).2)
        have hgl := (World.ownsRow.lt H5.out.2.1)
        have hml : (((chS s l kn).take m).map (vsS s l)).length = m := got_len HM.out
        have hm15 : m ≤ 15 := by
          have h1 := (T.kys_bd (vsS s l) (s.tkI (kn : Int)) (tkI_fit HOK.out _)).2
          have h2 := (Sh.tk_fit HOK.out (kn : Int).toNat).2
          have h3 : (chS s l kn).length ≤ (s.tkI (kn : Int)).nodes := h1
          have h4 : (s.tkI (kn : Int)).nodes ≤ 15 := h2
          have := HM.out
          omega
        obtain ⟨G, hG⟩ : ∃ G, G = ((chS s l kn).take m).map (vsS s l) := ⟨_, rfl⟩
        have HGE := Lib.hid hG
        have hgow : w5.ownsRow B 3 1 u6 m (G.map (.int .i64)) := by
          rw [hG]
          have h := hgo5
          unfold NumRow at h
          rwa [hml] at h
        have HGO := Lib.hid hgow
        have HSL := Lib.hid (show slLen u6 = m by rw [NumRow.len H5.out.2.1, hml])
        have HC := Lib.hid (And.intro hdok4 (And.intro hch (And.intro hdn4 (And.intro hgl (And.intro hv4 hfr4)))))
        have hBw5 : B ≤ w5.heap.size := by omega
        clear hoky hv4 hdok4 hyd4 hX4 hrk4 hvis4 hkd hch hdn4 hgo5 hgl hml hG hgow hst4 hfr4
        go_wp2_with (at_builtin; refine wpList_append_row _ rfl (.tmp 85) (.tmp 87) 30 rfl B 3 iN (.int .i64 0) 1 8 Try.underlying30 HIN2.out.1 HIN2.out.2.1 HIN2.out.2.2.1 HIN2.out.2.2.2 rfl (by decide) _ m (G.map (.int .i64)) rfl (World.ownsRow.alloc HGO.out _) ⟨w5.heap.size, 0, none⟩ 1 1 [.int .i64 v4] rfl rfl ?f1 ?f2 (by decide) ?f3 ?f4 ?f5 ?_)
        case f1 => exact news1 _ _ _
        case f2 => simp [Value.oneCell']
        case f3 => rw [HML.out]; omega
        case f4 => omega
        case f5 => simp; omega
        intro vg6 w6 hown hgr hnew
        rw [HGE.out] at hown
        have hs6 := hgr.size
        simp only [World.size_alloc] at hs6
        have hgr2 : Fr (fun b => u6.ownBlock = some b) w5 w6 := (show Fr (fun b => u6.ownBlock = some b) w5 _ from Fr.of_below ((Below.refl w5.heap.size w5).alloc (Nat.le_refl _) (.cells #[.int .i64 v4] 3))).trans (gr_fr hgr) (fun b hb => .inl hb)
        have hnew2 : ∀ b, vg6.ownBlock = some b → u6.ownBlock = some b ∨ w5.heap.size ≤ b := fun b hb => (hnew b hb).imp id (fun h => by first | omega | (simp at h; omega))
        have htk1 : (chS s l kn).take (m + 1) = (chS s l kn).take m ++ [y] := take_succ_map HKY.out.2
        have hl6 : (((chS s l kn).take (m + 1)).map (vsS s l)).length = m + 1 := got_len (by have := HKY.out.1; omega)
        have hg6 : NumRow w6 B vg6 (((chS s l kn).take (m + 1)).map (vsS s l)) := by
          unfold NumRow
          rw [hl6, htk1, List.map_append, List.map_append]
          simp only [List.map_cons, List.map_nil]
          rw [← HC.out.2.2.2.2.1]
          exact hown
        have hgno : ∀ b, u6.ownBlock = some b → ¬ oB q vv dv4 (.slice au4 (U.length + 1) cu4) b := fun b hb h => by
          have h1 := (H5.out.2.2.2.1 b hb).2
          have h2 := (HC.out.2.2.2.1 b hb).2
          rcases h with h | h | h | h
          · exact h1 (.inl h)
          · exact h1 (.inr (.inl h))
          · rcases H6.out.2.2.2.2.2.1 b h with h | h
            · exact h1 (.inr (.inr (.inl h)))
            · omega
          · rcases H6.out.2.2.2.2.2.2 b h with h | h
            · exact h1 (.inr (.inr (.inr h)))
            · omega
        have hst6 := H6.out.1.fr hgr2 hgno
        have hfr6 : Fr (oB q vv (.slice ad D.length cd) (.slice au U.length cu)) w w6 := H6.out.2.1.trans hgr2 (fun b hb => .inr (H5.out.2.2.2.1 b hb).1)
        have hlt6 := H6.out.1.lt
        have hgo6 : ∀ b, vg6.ownBlock = some b → w.heap.size ≤ b ∧ ¬ oB q vv dv4 (.slice au4 (U.length + 1) cu4) b := fun b hb => by
          rcases hnew2 b hb with h | h
          · exact ⟨(H5.out.2.2.2.1 b h).1, hgno b h⟩
          · exact ⟨by omega, fun h2 => by have := hlt6 b h2; omega⟩
        have hge := H.out.st.ge hB
        have hts : AtS w6 S s.t (some ⟨b', o', none⟩) c' := H.out.sh.2.fr hfr6 (fun b hb h => by have := H.out.lo b hb; have := hge b h; omega)
        obtain ⟨b7, o7, a7, c7, he7, hbl7, hSb7, e0, e1, e2, hat, _, _⟩ := hts.elem (Below.refl _ _) hkt
        injection he7 with he7
        injection he7 with he7 he7'
        subst he7 he7'
        rw [HTK.out] at hat e0 e1 e2
        have HAT := Lib.hid hat
        obtain ⟨ag6, cg6, hv6, hia6⟩ := NumRow.at hg6 (fun x hx => by
          obtain ⟨j, _, rfl⟩ := List.mem_map.1 hx
          have := HVB.out j
          unfold i64ok; omega)
        rw [hl6] at hv6
        subst hv6
        have HIA := Lib.hid hia6
        obtain ⟨z0, z1, z2, z3, z4, _⟩ := Blk.five hst6.bd
        have hq6 : q < w6.heap.size := hst6.bd.lt
        have hcg6 : m + 1 ≤ cg6 ∧ cg6 ≤ 9223372036854775807 := by have h1 := hia6.1; have h2 := hia6.2.1; rw [hl6] at h1; omega
        have H7 := Lib.hid (And.intro hg6 (And.intro hst6 (And.intro hfr6 hgo6)))
        have HLT := Lib.hid (show m + 1 ≤ (chS s l kn).length by have := HKY.out.1; omega)
        clear hown hgr hnew hnew2 hgr2 htk1 hl6 hg6 hgno hst6 hfr6 hlt6 hgo6 hge hts hat hia6 hSb7
        go_wp2_with fail
        refine (HNX.out (m + 1) HLT.out w6 S _ a7 ag6 c7 cg6 HAT.out HIA.out).mono ?_
        intro e w7 hp
        obtain ⟨x7, y7, b7, rfl, hb, hcase⟩ := hp.both
        have hst7 := H7.out.2.1.below hb
        have hg7 := ElRow.below (f := Value.int .i64) (e := 3) H7.out.1 hb
        have hfr7 := H7.out.2.2.1.trans (D' := fun _ => False) (Fr.of_below hb) (fun b hb => hb.elim)
        have H8 := Lib.hid (And.intro hg7 (And.intro hst7 (And.intro hfr7 hcase)))
        clear hp hb hcase hst7 hg7 hfr7 e0 e1 e2 z0 z1 z2 z3 z4
        go_wp2_with fail
        refine ⟨⟨⟨m + 1, x7, y7, b7, dv4, _, vl4, D4, X ++ X4, HLT.out, rfl, rfl, rfl, HC.out.2.2.1, H8.out.1, H8.out.2.1, H7.out.2.2.2, H8.out.2.2.1, H6.out.2.2.1, H6.out.2.2.2.1, HC.out.1, HC.out.2.1.1, HC.out.2.1.2.1, HC.out.2.1.2.2, H8.out.2.2.2⟩, trivial⟩, ?_⟩
        rw [HSL.out]
        simp only [slLen]
        have := HKY.out.1
        have := HKL.out
        omega
      · have hnk : okS s l (kn : Int) = false := by
          cases hx : okS s l (kn : Int)
          · rfl
          · have := ((gr_S HOK.out l).down (kn : Int) hx (by simp only [HMK.out]; rfl) y (List.mem_of_getElem? HKY.out.2)).1
            rw [hnoky] at this; cases this
        have HNK := Lib.hid hnk
        obtain ⟨z0, z1, z2, z3, z4, hfz⟩ := Blk.five hst4.bd
        have g4 := hfz 4
        clear hnoky hnk hst4 hfr4 hfz
        go_wp2_with fail
        go_region
        go_wp2_with fail
        go_ret2
        have hcut := H6.out.1.cut.drew
        exact ⟨dv4, _, vl4, D4, 0, false, rfl, hcut, (H6.out.2.1.set' ⟨q, 4, none⟩ (.inl rfl) _).trans (D' := fun _ => False) (Fr.of_below (Below.refl _ _).drew) (fun b hb => hb.elim), H6.out.2.2.1, fun b hb => H6.out.2.2.2.1 b (own_cut hb), .inr ⟨rfl, HNK.out⟩⟩

theorem ko_all : ∀ r, KoT S s l q B a c a' c' vv r
  | 0 => fun dv uv vl D U k w hr hp => by
    have := hp.undL
    omega
  | r + 1 => fun dv uv vl D U k w hr hp => by
    by_cases hk : (s.m.length : Int) ≤ k
    · exact ko_far hp hk
    cases hd : dnS s D k
    · by_cases hU : k ∈ U
      · exact ko_circ hp hd hU
      obtain ⟨kn, rfl⟩ : ∃ kn : Nat, k = kn := ⟨k.toNat, by have := hp.k0; omega⟩
      exact ko_main (ko_all r) (by omega) hp hd hU
    · exact ko_in hp (by omega) hd
end
end Go.Proofs.Ytklmpagpkeffjaa

/- impl.SheetSafe -/
namespace Go.Proofs.Ytklmpagpkeffjaa
open Go.RowKit

def nought (n : Nat) : List Int := List.replicate n 0
theorem nought_ok {n : Nat} (h : n ≤ 10) : vok (nought n) = true := by
  unfold vok nought
  rw [List.length_replicate, decide_eq_true h, Bool.true_and, List.all_eq_true]
  intro x hx
  rw [List.eq_of_mem_replicate hx]
  rfl
theorem nought_in {s : Sh} (h : s.ok = true) : inOk s (nought s.m.length) = true := by
  unfold inOk
  rw [h, nought_ok (Sh.ok_iff.1 h).1]
  simp [nought]
theorem nought_at (w : World) (n : Nat) (hn : n ≤ 9223372036854775807) : IntsAt (w.alloc (.cells (madeCells #[.int .i64 0] n) 3)) (fun _ => True) (nought n) (some ⟨w.heap.size, 0, none⟩) n := by
  have hl : (nought n).length = n := by simp [nought]
  refine ⟨by rw [hl]; omega, hn, fun v hv => by rw [List.eq_of_mem_replicate hv]; unfold i64ok; omega, .inr ⟨w.heap.size, 0, rfl, trivial, fun i hi => ?_⟩⟩
  rw [hl] at hi
  rw [Nat.zero_add, World.cell?_alloc_new, ← Array.getElem?_toList, toList_madeCells_one, List.getElem?_replicate, if_pos hi]
  simp [nought]

set_option maxRecDepth 100000 in
set_option maxHeartbeats 4000000 in
theorem implSafe_any (s : Sh) (w : World) (S0 : Nat → Prop) (a : Option Addr) (c : Nat) (a' : Option Addr) (c' : Nat) (h0 : ShAt w S0 s a c a' c') :
    Calls Try.prog 52 #[.agg #[.slice a s.m.length c, .slice a' s.t.length c']] w fun e w' => e = .returned (.bool (safeB s)) ∧ Below w.heap.size w w' := by
  obtain ⟨S, hSd⟩ : ∃ S : Nat → Prop, S = fun b => S0 b ∧ b < w.heap.size := ⟨_, rfl⟩
  have hSl : ∀ b, S b → b < w.heap.size := by rw [hSd]; exact fun b h => h.2
  have h : ShAt w S s a c a' c' := by rw [hSd]; exact h0.lim
  have HSL := Lib.hid hSl
  have K0 := Lib.hid (Ks.start (ty := 26) h)
  clear h h0 hSd hSl
  obtain ⟨x0, x1⟩ := K0.out.box
  cases hok : s.ok
  · have HV := Lib.hid (show safeB s = false by unfold safeB; rw [hok]; rfl)
    have HO := Lib.hid hok
    clear hok
    go_enter Try.func52, Try.ntmps52
    go_wp2_with fail
    refine (implSheetOk_any s _ S a c a' c' K0.out.2).mono ?_
    rintro e w1 ⟨rfl, hb⟩
    rw [HO.out]
    have K1 := Lib.hid (K0.out.step hb)
    clear hb x0 x1
    go_wp2_with fail
    go_ret
    exact ⟨ret_bool HV.out.symm, K1.out.done⟩
  · have hm10 : s.m.length ≤ 10 := (Sh.ok_iff.1 hok).1
    have HO := Lib.hid hok
    have HI := Lib.hid (nought_in hok)
    obtain ⟨n, hnn⟩ : ∃ n, n = s.m.length := ⟨_, rfl⟩
    have HN := Lib.hid hnn
    have hn10 : n ≤ 10 := by omega
    obtain ⟨i0, hi, hz0, hz1, hz2⟩ := info_parts infoInt
    have hmk := fun W => run_make_rowN (P := Try.prog) 30 3 i0 _ Try.underlying30 hi hz0 .i64 .i64 n n (Nat.le_refl _) (by rw [hz2]; omega) (by omega) W
    rw [hz1] at hmk
    clear hok hm10
    go_enter Try.func52, Try.ntmps52
    go_wp2_with fail
    refine (implSheetOk_any s _ S a c a' c' K0.out.2).mono ?_
    rintro e w1 ⟨rfl, hb⟩
    rw [HO.out]
    have K1 := Lib.hid (K0.out.step hb)
    clear hb x0 x1
    obtain ⟨x0, x1⟩ := K1.out.box
    rw [← hnn] at x0 ⊢
    have hwl : w.heap.size < w1.heap.size := by have := K1.out.size; omega
    clear hnn
    go_wp2_with fail
    have hc2 : Calls Try.prog 69 #[.agg #[.slice a n c, .slice a' s.t.length c'], .slice (some ⟨w1.heap.size, 0, none⟩) n n] (w1.alloc (.cells (madeCells #[.int .i64 0] n) 3)).drew (NodesPost (fun b => S b ∧ b < (w1.alloc (.cells (madeCells #[.int .i64 0] n) 3)).drew.heap.size) s (nought n) (w1.alloc (.cells (madeCells #[.int .i64 0] n) 3)).drew) := by
      have h := nodes_any' s (nought s.m.length) (w1.alloc (.cells (madeCells #[.int .i64 0] s.m.length) 3)).drew S (fun _ => True) a c a' c' (some ⟨w1.heap.size, 0, none⟩) s.m.length (K1.out.2.alloc _).drew (nought_at w1 s.m.length (by have := HN.out; omega)).drew HI.out
      rw [show (nought s.m.length).length = s.m.length by simp [nought], ← HN.out] at h
      exact h
    have HC2 := Lib.hid hc2
    have K2 := Lib.hid ((K1.out.alloc (.cells (madeCells #[.int .i64 0] n) 3)).drew)
    have hsd : (w1.alloc (.cells (madeCells #[.int .i64 0] n) 3)).drew.heap.size = w1.heap.size + 1 := by simp [World.drew]
    have HSD := Lib.hid hsd
    clear hc2 hsd
    go_region_with (go_at_call 69; refine HC2.out.mono ?_; rintro e w3 ⟨g, b, rfl, hb1, hg1, hnb, hp, hnd, hb⟩; rw [← HN.out] at hp hnd hnb ⊢)
    all_goals
      clear hmk
      have hS : ∀ b, (fun b => S b ∧ b < (w1.alloc (.cells (madeCells #[.int .i64 0] n) 3)).drew.heap.size) b → b < g := fun b hb => by have := hb.2; omega
      have HS := Lib.hid hS
      have HP3 := Lib.hid (And.intro hp (And.intro hnd (K2.out.step hb).done))
      have HNB := Lib.hid hnb
      have HG := Lib.hid (show w.heap.size ≤ g by have := HSD.out; omega)
      clear HC2 hb hp hnd hS hnb K2 x0 x1 hb1 hg1
      go_wp2_with fail
      go_loopw [15] (fun i wr => ∃ (k : Nat) (d : Int → Bool), k ≤ n ∧ i = .int .i64 k ∧ (∀ i, i < k → okM s (i : Int) = true) ∧ (∀ q, (!s.mdI q) = true → d q = true) ∧ (∀ q, d q = true → okM s q = true) ∧ PRow wr b g n n ∧
        Nds wr (fun b => S b ∧ b < (w1.alloc (.cells (madeCells #[.int .i64 0] n) 3)).drew.heap.size) s g n (mpv s g n) (vf (nought n)) d ∧ Below w.heap.size w wr) (fun i _ => n - (intOf i).toNat)
      case atStart => exact ⟨0, fun k => !s.mdI k, by omega, rfl, fun i hi => by omega, fun _ h => h, fun k h => (gr_M s).d0ok k h, HP3.out.1, HP3.out.2.1, HP3.out.2.2⟩
      case round =>
        obtain ⟨k, d, hk, rfl, hall, hlo, hhi, hp, hnd, hb⟩ := hrel
        have H4 := Lib.hid (And.intro hall (And.intro hlo (And.intro hhi (And.intro hp (And.intro hnd hb)))))
        clear HP3 hall hlo hhi hnd hb
        by_cases hlt : k < n
        · have hcell := hp.cell hlt
          clear hp
          go_wp2_with fail
          have hg := gr_M s
          have hst := settle_step (S := fun b => S b ∧ b < (w1.alloc (.cells (madeCells #[.int .i64 0] n) 3)).drew.heap.size) (s := s) (g := g) (vf (nought n)) HS.out
          rw [← HN.out] at hg hst
          refine (finish_any hg hst hn10 HS.out wr d k hlt H4.out.2.1 H4.out.2.2.1 H4.out.2.2.2.2.1).mono ?_
          rintro e w4 ⟨d2, L, a4, c4, rfl, hat, hnd2, hdd, hdo, hfr, _, ⟨rfl, hdf⟩ | ⟨hne, hnok, hLc⟩⟩
          · have hp4 := H4.out.2.2.2.1.fr hfr HNB.out
            have hb4 : Below w.heap.size w w4 := below_nd H4.out.2.2.2.2.2 hfr HG.out H4.out.2.2.2.2.2.size
            have hok2 : ∀ i, i < k + 1 → okM s (i : Int) = true := fun i hi => by
              by_cases hik : i = k
              · subst hik; exact hdo _ hdf
              · exact H4.out.1 i (by omega)
            have H5 := Lib.hid (And.intro hok2 (And.intro (fun q hq => hdd q (H4.out.2.1 q hq)) (And.intro hdo (And.intro hp4 (And.intro hnd2 hb4)))))
            clear hat hnd2 hdd hdo hfr hdf hp4 hb4 hok2 hg hst hcell
            go_wp2_with fail
            go_roundw
            case rel => exact ⟨k + 1, d2, by omega, by go_num, H5.out.1, H5.out.2.1, H5.out.2.2.1, H5.out.2.2.2.1, H5.out.2.2.2.2.1, H5.out.2.2.2.2.2⟩
            case measure => simp [intOf]; omega
          · have hb4 : Below w.heap.size w w4 := below_nd H4.out.2.2.2.2.2 hfr HG.out H4.out.2.2.2.2.2.size
            have HB4 := Lib.hid hb4
            have HV := Lib.hid (show safeB s = false by
              unfold safeB
              cases hx : (List.range s.m.length).all fun (i : Nat) => okM s (i : Int)
              · rw [Bool.and_false]
              · rw [List.all_eq_true] at hx
                rw [hx k (List.mem_range.2 (by rw [← HN.out]; exact hlt))] at hnok
                cases hnok)
            have hlp2 : 0 < L.length := List.length_pos_iff.2 hne
            have hlp : decide ((0 : Int) < (L.length : Int)) = true := decide_eq_true (by omega)
            have hlp3 : decide (0 < L.length) = true := decide_eq_true hlp2
            have hLm : L.length ≤ 9223372036854775807 := by have := hat.1; have := hat.2.1; omega
            clear hat hnd2 hdd hdo hfr hnok hLc hb4 hg hst hcell hne
            go_wp2_with fail
            go_ret
            exact ⟨ret_bool HV.out.symm, HB4.out⟩
        · obtain rfl : n = k := by omega
          have HV := Lib.hid (show safeB s = true by
            unfold safeB
            rw [HO.out, Bool.true_and, List.all_eq_true]
            intro i hi
            rw [List.mem_range, ← HN.out] at hi
            exact H4.out.1 i hi)
          clear hp
          go_wp2_with fail
          go_ret
          exact ⟨ret_bool HV.out.symm, H4.out.2.2.2.2.2⟩
end Go.Proofs.Ytklmpagpkeffjaa

/- impl.OrderSuspend, impl.OrderRestart -/
namespace Go.Proofs.Ytklmpagpkeffjaa
open Go.RowKit

theorem ojB_no {g n bx : Nat} {v : Value} {base b : Nat} {w : World} {tr : List Int} (ho : OrdAt w bx base v tr) (h1 : b ≠ bx) (h2 : ¬ ndB g n b) (h3 : b < base) : ¬ ojB g n bx v b := by
  rintro (h | h | h)
  · exact h2 h
  · exact h1 h
  · have := (World.ownsRow.lt ho.2 b h).1; omega
/-- One key of the queue more. -/
theorem sim_step {em : Int → Option Int → List Int} {ch : Int → List Int} {d0 d d' : Int → Bool} {ks tr X : List Int} {k : Nat} (hk : k < ks.length) (h : ∀ q o m, Ends em ch d q o m → ∃ m', Ends em ch d0 (ks.take k ++ q) (tr ++ o) m') (hv : Visit em ch d ks[k] X d') :
    ∀ q o m, Ends em ch d' q o m → ∃ m', Ends em ch d0 (ks.take (k + 1) ++ q) ((tr ++ X) ++ o) m' := fun q o m he => by
  obtain ⟨m1, h1⟩ := hv q o m he
  obtain ⟨m2, h2⟩ := h _ _ _ h1
  refine ⟨m2, ?_⟩
  rw [List.take_succ_eq_append_getElem hk, List.append_assoc, List.append_assoc]
  exact h2
set_option maxRecDepth 100000 in
set_option maxHeartbeats 4000000 in
theorem implSuspend_any (s : Sh) (l ks : List Int) (w : World) (S0 S1 S2 : Nat → Prop) (a : Option Addr) (c : Nat) (a' : Option Addr) (c' : Nat) (ai : Option Addr) (ci : Nat) (ak : Option Addr) (ck : Nat) (h0 : ShAt w S0 s a c a' c') (hl : IntsAt w S1 l ai ci) (hk0 : IntsAt w S2 ks ak ck) :
    Calls Try.prog 22 #[.agg #[.slice a s.m.length c, .slice a' s.t.length c'], .slice ai l.length ci, .slice ak ks.length ck] w (OrP (suB s l ks) (suL s l ks) w) := by
  obtain ⟨S, hSd⟩ : ∃ S : Nat → Prop, S = fun b => S0 b ∧ b < w.heap.size := ⟨_, rfl⟩
  have hSl : ∀ b, S b → b < w.heap.size := by rw [hSd]; exact fun b h => h.2
  have h : ShAt w S s a c a' c' := by rw [hSd]; exact h0.lim
  have HSL := Lib.hid hSl
  have K0 := Lib.hid (Ks.start (ty := 26) h)
  have L0 := Lib.hid (hl.alloc (.cells #[.slice a s.m.length c, .slice a' s.t.length c'] 26))
  have Q0 := Lib.hid (hk0.lim.alloc (.cells #[.slice a s.m.length c, .slice a' s.t.length c'] 26))
  have hkl : ks.length ≤ 9223372036854775807 := by have := hk0.1; have := hk0.2.1; omega
  obtain ⟨KL, hKL⟩ : ∃ n, n = ks.length := ⟨_, rfl⟩
  have HKL := Lib.hid hKL
  rw [← hKL] at hkl ⊢
  obtain ⟨b, hb⟩ : ∃ b, b = suB s l ks := ⟨_, rfl⟩
  obtain ⟨L, hL⟩ : ∃ L, L = suL s l ks := ⟨_, rfl⟩
  have HNO := Lib.hid (show ∀ (w' : World) (v : Value), suB s l ks = false → Below w.heap.size w w' → NumRow w' w.heap.size v [] → OrP b L w (.returned (.tuple #[v, .bool false])) w' from fun w' v h1 h2 h3 => by rw [hb, hL]; exact OrP.su_no h1 h2 h3)
  have HYES := Lib.hid (show ∀ (w' : World) (v : Value) (o : List Int) (m : Nat), suB s l ks = true → Ends emS (chS s l) (d0S s) ks o m → Below w.heap.size w w' → NumRow w' w.heap.size v o → OrP b L w (.returned (.tuple #[v, .bool true])) w' from fun w' v o m h1 h2 h3 h4 => by rw [hb, hL]; exact OrP.su_yes h1 h2 h3 h4)
  rw [← hb, ← hL]
  clear h h0 hl hk0 hSd hSl hKL hb hL
  obtain ⟨x0, x1⟩ := K0.out.box
  have hmf : ∀ (fn : Fn) (first cap : Array Value) (w : World), (Instr.makeFunc fn first cap).run Try.prog w = .ok (.func fn first cap) w := fun _ _ _ _ => rfl
  cases hin : inOk s l
  · have HI := Lib.hid hin
    clear hin
    go_enter Try.func22, Try.ntmps22
    go_wp2_with fail
    refine (implInputs_any s l _ S _ a c a' c' ai ci K0.out.2 L0.out).mono ?_
    rintro e w1 ⟨rfl, hb⟩
    rw [HI.out]
    have K1 := Lib.hid (K0.out.step hb)
    clear hb x0 x1
    go_wp2_with fail
    go_ret2
    exact HNO.out _ _ (by unfold suB; rw [HI.out]; rfl) K1.out.done (World.ownsRow_nil _ _ _ _)
  cases hkb : hkB s ks
  · have HI := Lib.hid hin
    have HK := Lib.hid hkb
    clear hin hkb
    go_enter Try.func22, Try.ntmps22
    go_wp2_with fail
    refine (implInputs_any s l _ S _ a c a' c' ai ci K0.out.2 L0.out).mono ?_
    rintro e w1 ⟨rfl, hb⟩
    rw [HI.out]
    have K1 := Lib.hid (K0.out.step hb)
    have Q1 := Lib.hid (Q0.out.below hb)
    clear hb x0 x1
    obtain ⟨x0, x1⟩ := K1.out.box
    go_wp2_with fail
    have hc := hasKeys_any s ks w1 S _ a c a' c' ak ck K1.out.2 Q1.out
    rw [← HKL.out] at hc
    refine hc.mono ?_
    clear hc
    rintro e w2 ⟨rfl, hb⟩
    rw [HK.out]
    have K2 := Lib.hid (K1.out.step hb)
    clear hb x0 x1
    go_wp2_with fail
    go_ret2
    exact HNO.out _ _ (by unfold suB; rw [HK.out]; simp) K2.out.done (World.ownsRow_nil _ _ _ _)
  have hok := (inOk_of hin).1
  have hmb : s.m.length ≤ 10 := (Sh.ok_iff.1 hok).1
  have HI := Lib.hid hin
  have HK := Lib.hid hkb
  have HOK := Lib.hid hok
  obtain ⟨n, hn⟩ : ∃ n, n = s.m.length := ⟨_, rfl⟩
  have HN := Lib.hid hn
  have hn10 : n ≤ 10 := by omega
  clear hin hkb hok hn hmb
  go_enter Try.func22, Try.ntmps22
  go_wp2_with fail
  refine (implInputs_any s l _ S _ a c a' c' ai ci K0.out.2 L0.out).mono ?_
  rintro e w1 ⟨rfl, hb⟩
  rw [HI.out]
  have K1 := Lib.hid (K0.out.step hb)
  have L1 := Lib.hid (L0.out.below hb)
  have Q1 := Lib.hid (Q0.out.below hb)
  clear hb x0 x1 K0 L0 Q0
  obtain ⟨x0, x1⟩ := K1.out.box
  go_wp2_with fail
  have hc := hasKeys_any s ks w1 S _ a c a' c' ak ck K1.out.2 Q1.out
  rw [← HKL.out] at hc
  refine hc.mono ?_
  clear hc
  rintro e w2 ⟨rfl, hb⟩
  rw [HK.out]
  have K2 := Lib.hid (K1.out.step hb)
  have L2 := Lib.hid (L1.out.below hb)
  have Q2 := Lib.hid (Q1.out.below hb)
  clear hb x0 x1 K1 L1 Q1
  obtain ⟨x0, x1⟩ := K2.out.box
  have hs2 := K2.out.size
  have K2b := Lib.hid (K2.out.alloc (.cells #[.slice none 0 0] 30))
  have L2b := Lib.hid (L2.out.alloc (.cells #[.slice none 0 0] 30))
  have Q2b := Lib.hid (Q2.out.alloc (.cells #[.slice none 0 0] 30))
  have B2b := Lib.hid (Blk.new w2 30 #[.slice none 0 0])
  clear x0 x1 K2 L2 Q2
  obtain ⟨x0, x1⟩ := K2b.out.box
  go_wp2_with fail
  refine (nodes_any' s l _ S _ a c a' c' ai ci K2b.out.2 L2b.out HI.out).mono ?_
  rintro e w3 ⟨g, br, rfl, hb1, hg1, hnb, hp, hnd, hb⟩
  rw [← HN.out] at hp hnd hnb ⊢
  have hs3 := hb.size
  simp only [World.size_alloc] at hb1 hg1 hs3
  have hgw : n = 0 ∨ g + n ≤ w3.heap.size := by
    rcases Nat.eq_zero_or_pos n with h | h
    · exact .inl h
    · obtain ⟨_, _, hl, _⟩ := hnd.node (i := n - 1) (by omega)
      exact .inr (by omega)
  have hbl : n = 0 ∨ br < w3.heap.size := by
    rcases Nat.eq_zero_or_pos n with h | h
    · exact .inl h
    · exact .inr (cell_lt (hp.cell h))
  have ho3 : OrdAt w3 w2.heap.size w3.heap.size (.slice none 0 0) [] := ⟨B2b.out.below hb (by simp), World.ownsRow_nil _ _ _ _⟩
  have hnd2 := nds_start HOK.out hnd
  have hud : undone (fun k => !s.mdI k) n ≤ n := undone_le _ _
  have hu110 : undone (fun k => !s.mdI k) n * (n + 1) ≤ 110 := Nat.le_trans (Nat.mul_le_mul (Nat.le_trans hud hn10) (Nat.succ_le_succ hn10)) (by decide)
  have H3 := Lib.hid (And.intro hp (And.intro hnd2 (And.intro ((K2b.out.step hb).done) (And.intro (Q2b.out.below hb) (And.intro ho3 hu110)))))
  have HSB := Lib.hid (show ∀ b, (fun b => S b ∧ b < (w2.alloc (.cells #[.slice none 0 0] 30)).heap.size) b → b < g ∧ b ≠ w2.heap.size from fun b hb => by
    have := HSL.out b hb.1
    omega)
  have HNB := Lib.hid hnb
  clear hb hp hnd hnb ho3 hnd2 hud hu110 x0 x1 K2b L2b Q2b B2b
  go_wp2_with fail
  go_loopw [29] (fun i wr => ∃ (k : Nat) (d : Int → Bool) (v : Value) (tr : List Int), k ≤ KL ∧ i = .int .i64 k ∧ (∀ q, (!s.mdI q) = true → d q = true) ∧ (∀ q, d q = true → okS s l q = true) ∧ PRow wr br g n n ∧
    Nds wr (fun b => S b ∧ b < (w2.alloc (.cells #[.slice none 0 0] 30)).heap.size) s g n (mpv s g n) (fun q => if d q = true then vsS s l q else vf l q) d ∧ Below w.heap.size w wr ∧ IntsAt wr (fun b => S2 b ∧ b < w.heap.size) ks ak ck ∧ OrdAt wr w2.heap.size w3.heap.size v tr ∧
    tr.length + undone d n * (n + 1) ≤ 110 ∧ (∀ q o m, Ends emS (chS s l) d q o m → ∃ m', Ends emS (chS s l) (d0S s) (ks.take k ++ q) (tr ++ o) m') ∧ (∀ x ∈ ks.take k, okS s l x = true) ∧ w3.heap.size ≤ wr.heap.size) (fun i _ => KL - (intOf i).toNat)
  case atStart => exact ⟨0, fun k => !s.mdI k, _, [], by omega, rfl, fun _ h => h, fun k h => (gr_S HOK.out l).d0ok k h, H3.out.1, H3.out.2.1, H3.out.2.2.1, H3.out.2.2.2.1, H3.out.2.2.2.2.1, by simpa using H3.out.2.2.2.2.2, fun q o m h => ⟨m, h⟩, by simp, Nat.le_refl _⟩
  case round =>
    obtain ⟨k, d, v, tr, hk, rfl, hlo, hhi, hp, hnd, hbw, hki, hord, hlen, hsim, hall, hws⟩ := hrel
    have H4 := Lib.hid (And.intro hlo (And.intro hhi (And.intro hp (And.intro hnd (And.intro hbw (And.intro hki (And.intro hord (And.intro hlen (And.intro hsim hall)))))))))
    clear H3 hlo hhi hnd hbw hki hlen hsim hall
    by_cases hlt : k < KL
    · have hlt2 : k < ks.length := by have := HKL.out; omega
      obtain ⟨bk, ok, rfl, hbkl, _, hc⟩ := H4.out.2.2.2.2.2.1.get (Below.refl _ _) hlt2
      obtain ⟨key, hkey⟩ : ∃ key, key = ks[k] := ⟨_, rfl⟩
      have hkr : 0 ≤ key ∧ key < s.m.length := by
        have h := HK.out
        unfold hkB at h
        rw [List.all_eq_true] at h
        have h := h ks[k] (List.getElem_mem _)
        rw [decide_eq_true_eq] at h
        rw [hkey]; exact h
      obtain ⟨kn, rfl⟩ : ∃ kn : Nat, key = kn := ⟨key.toNat, by omega⟩
      have hkn : kn < n := by have := HN.out; omega
      rw [← hkey] at hc
      have HKEY := Lib.hid hkey
      have HL2 := Lib.hid hlt2
      have hcell := hp.cell hkn
      have hgn : g + n ≤ w3.heap.size := by rcases hgw with h | h <;> omega
      have hg := gr_S HOK.out l
      have hst := suspend_step (bx := w2.heap.size) (base := w3.heap.size) (try_step (S := fun b => S b ∧ b < (w2.alloc (.cells #[.slice none 0 0] 30)).heap.size) (g := g) HI.out (fun b hb => (HSB.out b hb).1)) HSB.out (by omega) (by rw [← HN.out]; exact hgn)
      rw [← HN.out] at hg hst
      have hfin := finishJ_any hg hst hn10 (fun b hb => (HSB.out b hb).1) (by omega) (fun b hb => (HSB.out b hb).2) wr d kn v tr hkn H4.out.1 H4.out.2.1 H4.out.2.2.2.1 hord (by have := H4.out.2.2.2.2.2.2.2.1; omega) hws
      have HFIN := Lib.hid hfin
      clear hkey hkr hp hg hst hfin hord
      go_wp2_with fail
      refine HFIN.out.mono ?_
      rintro e w4 ⟨d2, ln, a4, c4, v4, X, rfl, hlc, hcm, hnd2, hdd, hdo, hord4, hown4, hfr, hcase⟩
      clear hcell hc HFIN
      have hordw := H4.out.2.2.2.2.2.2.1
      have hvl := World.ownsRow.lt hordw.2
      have hb4 : Below w.heap.size w w4 := H4.out.2.2.2.2.1.trans ⟨hfr.1, hfr.2.1, hfr.2.2.1, hfr.2.2.2.1, fun b hb => hfr.2.2.2.2 b (by have := H4.out.2.2.2.2.1.size; omega) (fun h => by
        rcases h with h | h | h
        · have := h.1; omega
        · omega
        · have := (hvl b h).1; omega)⟩
      have hs4 := hfr.size
      rcases hcase with ⟨rfl, hdf, hvis, hlen⟩ | ⟨hne, hnok⟩
      · have hp4 := H4.out.2.2.1.fr hfr (ojB_no hordw (by omega) HNB.out (by rcases hbl with h | h <;> omega))
        have hk4 := H4.out.2.2.2.2.2.1.fr hfr (fun b hb => ojB_no hordw (by have := hb.2; omega) (fun h => by have := h.1; have := hb.2; omega) (by have := hb.2; omega))
        have hlen4 : (tr ++ X).length + undone d2 n * (n + 1) ≤ 110 := by rw [List.length_append]; have := H4.out.2.2.2.2.2.2.2.1; omega
        have hsim4 := sim_step HL2.out H4.out.2.2.2.2.2.2.2.2.1 (by rw [← HKEY.out]; exact hvis)
        have hall4 : ∀ x ∈ ks.take (k + 1), okS s l x = true := fun x hx => by
          rw [List.take_succ_eq_append_getElem HL2.out, List.mem_append, List.mem_singleton] at hx
          rcases hx with hx | rfl
          · exact H4.out.2.2.2.2.2.2.2.2.2 x hx
          · rw [← HKEY.out]; exact hdo _ hdf
        have H5 := Lib.hid (And.intro (fun q hq => hdd q (H4.out.1 q hq)) (And.intro hdo (And.intro hp4 (And.intro hnd2 (And.intro hb4 (And.intro hk4 (And.intro hord4 (And.intro hlen4 (And.intro hsim4 hall4)))))))))
        clear hnd2 hdd hdo hord4 hown4 hfr hdf hvis hlen hordw hvl hb4 hp4 hk4 hlen4 hsim4 hall4
        go_wp2_with fail
        go_roundw
        case rel => exact ⟨k + 1, d2, v4, tr ++ X, by omega, by go_num, H5.out.1, H5.out.2.1, H5.out.2.2.1, H5.out.2.2.2.1, H5.out.2.2.2.2.1, H5.out.2.2.2.2.2.1, H5.out.2.2.2.2.2.2.1, H5.out.2.2.2.2.2.2.2.1, H5.out.2.2.2.2.2.2.2.2.1, H5.out.2.2.2.2.2.2.2.2.2, by omega⟩
        case measure => simp [intOf]; omega
      · have HB4 := Lib.hid hb4
        have hno : suB s l ks = false := by
          unfold suB
          rw [all_fls HL2.out (by rw [← HKEY.out]; exact hnok), Bool.and_false]
        have HF := Lib.hid hno
        have hlp2 : 0 < ln := by omega
        have hlp : decide ((0 : Int) < (ln : Int)) = true := decide_eq_true (by omega)
        have hlp3 : decide (0 < ln) = true := decide_eq_true hlp2
        clear hnd2 hdd hdo hord4 hown4 hfr hnok hne hordw hvl hb4 hno
        go_wp2_with fail
        go_ret2
        exact HNO.out _ _ HF.out HB4.out (World.ownsRow_nil _ _ _ _)
    · have hq : ks.take k = ks := List.take_of_length_le (by have := HKL.out; omega)
      have hyes : suB s l ks = true := by
        unfold suB
        rw [HI.out, HK.out, Bool.true_and, Bool.true_and, List.all_eq_true]
        intro x hx
        exact H4.out.2.2.2.2.2.2.2.2.2 x (by rw [hq]; exact hx)
      have hends : ∃ m', Ends emS (chS s l) (d0S s) ks tr m' := by
        obtain ⟨m', h⟩ := H4.out.2.2.2.2.2.2.2.2.1 [] [] 0 (.nil d)
        rw [hq, List.append_nil, List.append_nil] at h
        exact ⟨m', h⟩
      have HY := Lib.hid (And.intro hyes hends)
      obtain ⟨y0, _⟩ := hord.1.one
      obtain ⟨av, cv, rfl, _⟩ := ElRow.at (f := Value.int .i64) (e := 3) hord.2
      clear hq hyes hends hord hp
      go_wp2_with fail
      go_ret2
      obtain ⟨m', h⟩ := HY.out.2
      exact HYES.out _ _ _ _ HY.out.1 h H4.out.2.2.2.2.1 (ownsRow_low H4.out.2.2.2.2.2.2.1.2 (by omega))

set_option maxRecDepth 100000 in
set_option maxHeartbeats 4000000 in
theorem implRestart_any (s : Sh) (l ks : List Int) (w : World) (S0 S1 S2 : Nat → Prop) (a : Option Addr) (c : Nat) (a' : Option Addr) (c' : Nat) (ai : Option Addr) (ci : Nat) (ak : Option Addr) (ck : Nat) (h0 : ShAt w S0 s a c a' c') (hl : IntsAt w S1 l ai ci) (hk0 : IntsAt w S2 ks ak ck) :
    Calls Try.prog 27 #[.agg #[.slice a s.m.length c, .slice a' s.t.length c'], .slice ai l.length ci, .slice ak ks.length ck] w (OrP (rsB s l ks) (rsL s l ks) w) := by
  obtain ⟨S, hSd⟩ : ∃ S : Nat → Prop, S = fun b => S0 b ∧ b < w.heap.size := ⟨_, rfl⟩
  have hSl : ∀ b, S b → b < w.heap.size := by rw [hSd]; exact fun b h => h.2
  have h : ShAt w S s a c a' c' := by rw [hSd]; exact h0.lim
  have HSL := Lib.hid hSl
  have K0 := Lib.hid (Ks.start (ty := 26) h)
  have L0 := Lib.hid (hl.alloc (.cells #[.slice a s.m.length c, .slice a' s.t.length c'] 26))
  have Q0 := Lib.hid (hk0.lim.alloc (.cells #[.slice a s.m.length c, .slice a' s.t.length c'] 26))
  have hkl : ks.length ≤ 9223372036854775807 := by have := hk0.1; have := hk0.2.1; omega
  obtain ⟨KL, hKL⟩ : ∃ n, n = ks.length := ⟨_, rfl⟩
  have HKL := Lib.hid hKL
  rw [← hKL] at hkl ⊢
  obtain ⟨b, hb⟩ : ∃ b, b = rsB s l ks := ⟨_, rfl⟩
  obtain ⟨L, hL⟩ : ∃ L, L = rsL s l ks := ⟨_, rfl⟩
  have HNO := Lib.hid (show ∀ (w' : World) (v : Value), rsB s l ks = false → Below w.heap.size w w' → NumRow w' w.heap.size v [] → OrP b L w (.returned (.tuple #[v, .bool false])) w' from fun w' v h1 h2 h3 => by rw [hb, hL]; exact OrP.rs_no h1 h2 h3)
  have HYES := Lib.hid (show ∀ (w' : World) (v : Value) (o : List Int) (m : Nat), rsB s l ks = true → Ends emR (chS s l) (d0S s) ks o m → Below w.heap.size w w' → NumRow w' w.heap.size v o → OrP b L w (.returned (.tuple #[v, .bool true])) w' from fun w' v o m h1 h2 h3 h4 => by rw [hb, hL]; exact OrP.rs_yes h1 h2 h3 h4)
  rw [← hb, ← hL]
  clear h h0 hl hk0 hSd hSl hKL hb hL
  obtain ⟨x0, x1⟩ := K0.out.box
  have hmf : ∀ (fn : Fn) (first cap : Array Value) (w : World), (Instr.makeFunc fn first cap).run Try.prog w = .ok (.func fn first cap) w := fun _ _ _ _ => rfl
  cases hin : inOk s l
  · have HI := Lib.hid hin
    clear hin
    go_enter Try.func27, Try.ntmps27
    go_wp2_with fail
    refine (implInputs_any s l _ S _ a c a' c' ai ci K0.out.2 L0.out).mono ?_
    rintro e w1 ⟨rfl, hb⟩
    rw [HI.out]
    have K1 := Lib.hid (K0.out.step hb)
    clear hb x0 x1
    go_wp2_with fail
    go_ret2
    exact HNO.out _ _ (by unfold rsB; rw [HI.out]; rfl) K1.out.done (World.ownsRow_nil _ _ _ _)
  cases hkb : hkB s ks
  · have HI := Lib.hid hin
    have HK := Lib.hid hkb
    clear hin hkb
    go_enter Try.func27, Try.ntmps27
    go_wp2_with fail
    refine (implInputs_any s l _ S _ a c a' c' ai ci K0.out.2 L0.out).mono ?_
    rintro e w1 ⟨rfl, hb⟩
    rw [HI.out]
    have K1 := Lib.hid (K0.out.step hb)
    have Q1 := Lib.hid (Q0.out.below hb)
    clear hb x0 x1
    obtain ⟨x0, x1⟩ := K1.out.box
    go_wp2_with fail
    have hc := hasKeys_any s ks w1 S _ a c a' c' ak ck K1.out.2 Q1.out
    rw [← HKL.out] at hc
    refine hc.mono ?_
    clear hc
    rintro e w2 ⟨rfl, hb⟩
    rw [HK.out]
    have K2 := Lib.hid (K1.out.step hb)
    clear hb x0 x1
    go_wp2_with fail
    go_ret2
    exact HNO.out _ _ (by unfold rsB; rw [HK.out]; simp) K2.out.done (World.ownsRow_nil _ _ _ _)
  cases hsf : safeB s
  · have HI := Lib.hid hin
    have HK := Lib.hid hkb
    have HSF := Lib.hid hsf
    clear hin hkb hsf
    go_enter Try.func27, Try.ntmps27
    go_wp2_with fail
    refine (implInputs_any s l _ S _ a c a' c' ai ci K0.out.2 L0.out).mono ?_
    rintro e w1 ⟨rfl, hb⟩
    rw [HI.out]
    have K1 := Lib.hid (K0.out.step hb)
    have Q1 := Lib.hid (Q0.out.below hb)
    clear hb x0 x1
    obtain ⟨x0, x1⟩ := K1.out.box
    go_wp2_with fail
    have hc := hasKeys_any s ks w1 S _ a c a' c' ak ck K1.out.2 Q1.out
    rw [← HKL.out] at hc
    refine hc.mono ?_
    clear hc
    rintro e w2 ⟨rfl, hb⟩
    rw [HK.out]
    have K2 := Lib.hid (K1.out.step hb)
    clear hb x0 x1
    obtain ⟨x0, x1⟩ := K2.out.box
    go_wp2_with fail
    refine (implSafe_any s w2 S a c a' c' K2.out.2).mono ?_
    rintro e w3 ⟨rfl, hb⟩
    rw [HSF.out]
    have K3 := Lib.hid (K2.out.step hb)
    clear hb x0 x1
    go_wp2_with fail
    go_ret2
    exact HNO.out _ _ (by unfold rsB; rw [HSF.out]; simp) K3.out.done (World.ownsRow_nil _ _ _ _)
  have hok := (inOk_of hin).1
  have hmb : s.m.length ≤ 10 := (Sh.ok_iff.1 hok).1
  have HI := Lib.hid hin
  have HK := Lib.hid hkb
  have HOK := Lib.hid hok
  have HSF := Lib.hid hsf
  obtain ⟨n, hn⟩ : ∃ n, n = s.m.length := ⟨_, rfl⟩
  have HN := Lib.hid hn
  have hn10 : n ≤ 10 := by omega
  clear hin hkb hok hn hmb hsf
  go_enter Try.func27, Try.ntmps27
  go_wp2_with fail
  refine (implInputs_any s l _ S _ a c a' c' ai ci K0.out.2 L0.out).mono ?_
  rintro e w1 ⟨rfl, hb⟩
  rw [HI.out]
  have K1 := Lib.hid (K0.out.step hb)
  have L1 := Lib.hid (L0.out.below hb)
  have Q1 := Lib.hid (Q0.out.below hb)
  clear hb x0 x1 K0 L0 Q0
  obtain ⟨x0, x1⟩ := K1.out.box
  go_wp2_with fail
  have hc := hasKeys_any s ks w1 S _ a c a' c' ak ck K1.out.2 Q1.out
  rw [← HKL.out] at hc
  refine hc.mono ?_
  clear hc
  rintro e w2 ⟨rfl, hb⟩
  rw [HK.out]
  have K2 := Lib.hid (K1.out.step hb)
  have L2 := Lib.hid (L1.out.below hb)
  have Q2 := Lib.hid (Q1.out.below hb)
  clear hb x0 x1 K1 L1 Q1
  obtain ⟨x0, x1⟩ := K2.out.box
  go_wp2_with fail
  refine (implSafe_any s w2 S a c a' c' K2.out.2).mono ?_
  rintro e w2' ⟨rfl, hb⟩
  rw [HSF.out]
  have K2' := Lib.hid (K2.out.step hb)
  have L2' := Lib.hid (L2.out.below hb)
  have Q2' := Lib.hid (Q2.out.below hb)
  clear hb x0 x1 K2 L2 Q2
  obtain ⟨w2, hw2⟩ : ∃ w, w = w2' := ⟨_, rfl⟩
  subst hw2
  have K2 := K2'
  have L2 := L2'
  have Q2 := Q2'
  clear K2' L2' Q2'
  obtain ⟨x0, x1⟩ := K2.out.box
  have hs2 := K2.out.size
  have K2b := Lib.hid (K2.out.alloc (.cells #[.slice none 0 0] 30))
  have L2b := Lib.hid (L2.out.alloc (.cells #[.slice none 0 0] 30))
  have Q2b := Lib.hid (Q2.out.alloc (.cells #[.slice none 0 0] 30))
  have B2b := Lib.hid (Blk.new w2 30 #[.slice none 0 0])
  clear x0 x1 K2 L2 Q2
  obtain ⟨x0, x1⟩ := K2b.out.box
  go_wp2_with fail
  refine (nodes_any' s l _ S _ a c a' c' ai ci K2b.out.2 L2b.out HI.out).mono ?_
  rintro e w3 ⟨g, br, rfl, hb1, hg1, hnb, hp, hnd, hb⟩
  rw [← HN.out] at hp hnd hnb ⊢
  have hs3 := hb.size
  simp only [World.size_alloc] at hb1 hg1 hs3
  have hgw : n = 0 ∨ g + n ≤ w3.heap.size := by
    rcases Nat.eq_zero_or_pos n with h | h
    · exact .inl h
    · obtain ⟨_, _, hl, _⟩ := hnd.node (i := n - 1) (by omega)
      exact .inr (by omega)
  have hbl : n = 0 ∨ br < w3.heap.size := by
    rcases Nat.eq_zero_or_pos n with h | h
    · exact .inl h
    · exact .inr (cell_lt (hp.cell h))
  have ho3 : OrdAt w3 w2.heap.size w3.heap.size (.slice none 0 0) [] := ⟨B2b.out.below hb (by simp), World.ownsRow_nil _ _ _ _⟩
  have hnd2 := nds_start HOK.out hnd
  have hud : undone (fun k => !s.mdI k) n ≤ n := undone_le _ _
  have hu110 : undone (fun k => !s.mdI k) n * (n + 1) ≤ 110 := Nat.le_trans (Nat.mul_le_mul (Nat.le_trans hud hn10) (Nat.succ_le_succ hn10)) (by decide)
  have H3 := Lib.hid (And.intro hp (And.intro hnd2 (And.intro ((K2b.out.step hb).done) (And.intro (Q2b.out.below hb) (And.intro ho3 hu110)))))
  have HSB := Lib.hid (show ∀ b, (fun b => S b ∧ b < (w2.alloc (.cells #[.slice none 0 0] 30)).heap.size) b → b < g ∧ b ≠ w2.heap.size from fun b hb => by
    have := HSL.out b hb.1
    omega)
  have HNB := Lib.hid hnb
  clear hb hp hnd hnb ho3 hnd2 hud hu110 x0 x1 K2b L2b Q2b B2b
  go_wp2_with fail
  go_loopw [34] (fun i wr => ∃ (k : Nat) (d : Int → Bool) (v : Value) (tr : List Int), k ≤ KL ∧ i = .int .i64 k ∧ (∀ q, (!s.mdI q) = true → d q = true) ∧ (∀ q, d q = true → okS s l q = true) ∧ PRow wr br g n n ∧
    Nds wr (fun b => S b ∧ b < (w2.alloc (.cells #[.slice none 0 0] 30)).heap.size) s g n (mpv s g n) (fun q => if d q = true then vsS s l q else vf l q) d ∧ Below w.heap.size w wr ∧ IntsAt wr (fun b => S2 b ∧ b < w.heap.size) ks ak ck ∧ OrdAt wr w2.heap.size w3.heap.size v tr ∧
    tr.length + undone d n * (n + 1) ≤ 110 ∧ (∀ q o m, Ends emR (chS s l) d q o m → ∃ m', Ends emR (chS s l) (d0S s) (ks.take k ++ q) (tr ++ o) m') ∧ (∀ x ∈ ks.take k, okS s l x = true) ∧ w3.heap.size ≤ wr.heap.size) (fun i _ => KL - (intOf i).toNat)
  case atStart => exact ⟨0, fun k => !s.mdI k, _, [], by omega, rfl, fun _ h => h, fun k h => (gr_S HOK.out l).d0ok k h, H3.out.1, H3.out.2.1, H3.out.2.2.1, H3.out.2.2.2.1, H3.out.2.2.2.2.1, by simpa using H3.out.2.2.2.2.2, fun q o m h => ⟨m, h⟩, by simp, Nat.le_refl _⟩
  case round =>
    obtain ⟨k, d, v, tr, hk, rfl, hlo, hhi, hp, hnd, hbw, hki, hord, hlen, hsim, hall, hws⟩ := hrel
    have H4 := Lib.hid (And.intro hlo (And.intro hhi (And.intro hp (And.intro hnd (And.intro hbw (And.intro hki (And.intro hord (And.intro hlen (And.intro hsim hall)))))))))
    clear H3 hlo hhi hnd hbw hki hlen hsim hall
    by_cases hlt : k < KL
    · have hlt2 : k < ks.length := by have := HKL.out; omega
      obtain ⟨bk, ok, rfl, hbkl, _, hc⟩ := H4.out.2.2.2.2.2.1.get (Below.refl _ _) hlt2
      obtain ⟨key, hkey⟩ : ∃ key, key = ks[k] := ⟨_, rfl⟩
      have hkr : 0 ≤ key ∧ key < s.m.length := by
        have h := HK.out
        unfold hkB at h
        rw [List.all_eq_true] at h
        have h := h ks[k] (List.getElem_mem _)
        rw [decide_eq_true_eq] at h
        rw [hkey]; exact h
      obtain ⟨kn, rfl⟩ : ∃ kn : Nat, key = kn := ⟨key.toNat, by omega⟩
      have hkn : kn < n := by have := HN.out; omega
      rw [← hkey] at hc
      have HKEY := Lib.hid hkey
      have HL2 := Lib.hid hlt2
      have hcell := hp.cell hkn
      have hgn : g + n ≤ w3.heap.size := by rcases hgw with h | h <;> omega
      have hg := gr_S HOK.out l
      have hst := restart_step (bx := w2.heap.size) (base := w3.heap.size) (try_step (S := fun b => S b ∧ b < (w2.alloc (.cells #[.slice none 0 0] 30)).heap.size) (g := g) HI.out (fun b hb => (HSB.out b hb).1)) HSB.out (by omega) (by rw [← HN.out]; exact hgn)
      rw [← HN.out] at hg hst
      have hfin := finishJ_any hg hst hn10 (fun b hb => (HSB.out b hb).1) (by omega) (fun b hb => (HSB.out b hb).2) wr d kn v tr hkn H4.out.1 H4.out.2.1 H4.out.2.2.2.1 hord (by have := H4.out.2.2.2.2.2.2.2.1; omega) hws
      have HFIN := Lib.hid hfin
      clear hkey hkr hp hg hst hfin hord
      go_wp2_with fail
      refine HFIN.out.mono ?_
      rintro e w4 ⟨d2, ln, a4, c4, v4, X, rfl, hlc, hcm, hnd2, hdd, hdo, hord4, hown4, hfr, hcase⟩
      clear hcell hc HFIN
      have hordw := H4.out.2.2.2.2.2.2.1
      have hvl := World.ownsRow.lt hordw.2
      have hb4 : Below w.heap.size w w4 := H4.out.2.2.2.2.1.trans ⟨hfr.1, hfr.2.1, hfr.2.2.1, hfr.2.2.2.1, fun b hb => hfr.2.2.2.2 b (by have := H4.out.2.2.2.2.1.size; omega) (fun h => by
        rcases h with h | h | h
        · have := h.1; omega
        · omega
        · have := (hvl b h).1; omega)⟩
      have hs4 := hfr.size
      have hcase2 : ln = 0 ∧ d2 (kn : Int) = true ∧ Visit emR (chS s l) d kn X d2 ∧ X.length + undone d2 n * (n + 1) ≤ undone d n * (n + 1) := by
        rcases hcase with h | ⟨_, hnok⟩
        · exact h
        · rw [safe_oks HI.out HSF.out] at hnok; cases hnok
      obtain ⟨-, hdf, hvis, hlen⟩ := hcase2
      have hp4 := H4.out.2.2.1.fr hfr (ojB_no hordw (by omega) HNB.out (by rcases hbl with h | h <;> omega))
      have hk4 := H4.out.2.2.2.2.2.1.fr hfr (fun b hb => ojB_no hordw (by have := hb.2; omega) (fun h => by have := h.1; have := hb.2; omega) (by have := hb.2; omega))
      have hlen4 : (tr ++ X).length + undone d2 n * (n + 1) ≤ 110 := by rw [List.length_append]; have := H4.out.2.2.2.2.2.2.2.1; omega
      have hsim4 := sim_step HL2.out H4.out.2.2.2.2.2.2.2.2.1 (by rw [← HKEY.out]; exact hvis)
      have hall4 : ∀ x ∈ ks.take (k + 1), okS s l x = true := fun x _ => safe_oks HI.out HSF.out x
      have H5 := Lib.hid (And.intro (fun q hq => hdd q (H4.out.1 q hq)) (And.intro hdo (And.intro hp4 (And.intro hnd2 (And.intro hb4 (And.intro hk4 (And.intro hord4 (And.intro hlen4 (And.intro hsim4 hall4)))))))))
      clear hnd2 hdd hdo hord4 hown4 hfr hdf hvis hlen hordw hvl hb4 hp4 hk4 hlen4 hsim4 hall4 hcase
      go_wp2_with fail
      go_roundw
      case rel => exact ⟨k + 1, d2, v4, tr ++ X, by omega, by go_num, H5.out.1, H5.out.2.1, H5.out.2.2.1, H5.out.2.2.2.1, H5.out.2.2.2.2.1, H5.out.2.2.2.2.2.1, H5.out.2.2.2.2.2.2.1, H5.out.2.2.2.2.2.2.2.1, H5.out.2.2.2.2.2.2.2.2.1, H5.out.2.2.2.2.2.2.2.2.2, by omega⟩
      case measure => simp [intOf]; omega
    · have hq : ks.take k = ks := List.take_of_length_le (by have := HKL.out; omega)
      have hyes : rsB s l ks = true := by
        unfold rsB
        rw [HI.out, HK.out, HSF.out]; rfl
      have hends : ∃ m', Ends emR (chS s l) (d0S s) ks tr m' := by
        obtain ⟨m', h⟩ := H4.out.2.2.2.2.2.2.2.2.1 [] [] 0 (.nil d)
        rw [hq, List.append_nil, List.append_nil] at h
        exact ⟨m', h⟩
      have HY := Lib.hid (And.intro hyes hends)
      obtain ⟨y0, _⟩ := hord.1.one
      obtain ⟨av, cv, rfl, _⟩ := ElRow.at (f := Value.int .i64) (e := 3) hord.2
      clear hq hyes hends hord hp
      go_wp2_with fail
      go_ret2
      obtain ⟨m', h⟩ := HY.out.2
      exact HYES.out _ _ _ _ HY.out.1 h H4.out.2.2.2.2.1 (ownsRow_low H4.out.2.2.2.2.2.2.1.2 (by omega))
end Go.Proofs.Ytklmpagpkeffjaa

/- spec.OrderSuspend -/
namespace Go.Proofs.Ytklmpagpkeffjaa
open Go.RowKit

theorem IntsAt.drew1 {w : World} {S : Nat → Prop} {l : List Int} {a : Option Addr} {c : Nat} (h : IntsAt w S l a c) : IntsAt w.drew S l a c := IntsAt.drew h

set_option maxRecDepth 100000 in
set_option maxHeartbeats 3000000 in
theorem specSuspend_any (s : Sh) (l ks : List Int) (w : World) (S0 S1 S2 : Nat → Prop) (a : Option Addr) (c : Nat) (a' : Option Addr) (c' : Nat) (ai : Option Addr) (ci : Nat) (ak : Option Addr) (ck : Nat) (h0 : ShAt w S0 s a c a' c') (hn : nodesL s.t ≤ 1048576) (hl : IntsAt w S1 l ai ci) (hk0 : IntsAt w S2 ks ak ck) (hkl : ks.length ≤ 1048576) :
    Calls Try.prog 23 #[.agg #[.slice a s.m.length c, .slice a' s.t.length c'], .slice ai l.length ci, .slice ak ks.length ck] w (OrP (suB s l ks) (suL s l ks) w) := by
  have K0 := Lib.hid (Ks.start (ty := 26) h0.lim)
  have L0 := Lib.hid (hl.alloc (.cells #[.slice a s.m.length c, .slice a' s.t.length c'] 26))
  have Q0 := Lib.hid (hk0.lim.alloc (.cells #[.slice a s.m.length c, .slice a' s.t.length c'] 26))
  have HNN := Lib.hid hn
  obtain ⟨KL, hKL⟩ : ∃ n, n = ks.length := ⟨_, rfl⟩
  have HKL := Lib.hid hKL
  rw [← hKL] at hkl ⊢
  obtain ⟨LL, hLL⟩ : ∃ n, n = l.length := ⟨_, rfl⟩
  have HLL := Lib.hid hLL
  rw [← hLL]
  obtain ⟨b, hb⟩ : ∃ b, b = suB s l ks := ⟨_, rfl⟩
  obtain ⟨L, hL⟩ : ∃ L, L = suL s l ks := ⟨_, rfl⟩
  have HNO := Lib.hid (show ∀ (w' : World) (v : Value), suB s l ks = false → Below w.heap.size w w' → NumRow w' w.heap.size v [] → OrP b L w (.returned (.tuple #[v, .bool false])) w' from fun w' v h1 h2 h3 => by rw [hb, hL]; exact OrP.su_no h1 h2 h3)
  have HYES := Lib.hid (show ∀ (w' : World) (v : Value) (o : List Int) (m : Nat), suB s l ks = true → Ends emS (chS s l) (d0S s) ks o m → Below w.heap.size w w' → NumRow w' w.heap.size v o → OrP b L w (.returned (.tuple #[v, .bool true])) w' from fun w' v o m h1 h2 h3 h4 => by rw [hb, hL]; exact OrP.su_yes h1 h2 h3 h4)
  rw [← hb, ← hL]
  clear h0 hl hk0 hKL hLL hb hL hn
  obtain ⟨x0, x1⟩ := K0.out.box
  cases hin : inOk s l
  · have HI := Lib.hid hin
    clear hin
    go_enter Try.func23, Try.ntmps23
    go_wp2_with fail
    have hc := specInputs_any s l _ _ _ a c a' c' ai ci K0.out.2 HNN.out L0.out
    rw [← HLL.out] at hc
    refine hc.mono ?_
    clear hc
    rintro e w1 ⟨rfl, hb⟩
    rw [HI.out]
    have K1 := Lib.hid (K0.out.step hb)
    clear hb x0 x1
    go_wp2_with fail
    go_ret2
    exact HNO.out _ _ (by unfold suB; rw [HI.out]; rfl) (K1.out.alloc _).done (ownsRow_low (rowN_new w1) (by have := K1.out.size; omega))
  cases hkb : kyB s ks
  · have HI := Lib.hid hin
    have HK := Lib.hid hkb
    clear hin hkb
    go_enter Try.func23, Try.ntmps23
    go_wp2_with fail
    have hc := specInputs_any s l _ _ _ a c a' c' ai ci K0.out.2 HNN.out L0.out
    rw [← HLL.out] at hc
    refine hc.mono ?_
    clear hc
    rintro e w1 ⟨rfl, hb⟩
    rw [HI.out]
    have K1 := Lib.hid (K0.out.step hb)
    have Q1 := Lib.hid (Q0.out.below hb)
    clear hb x0 x1
    obtain ⟨x0, x1⟩ := K1.out.box
    go_wp2_with fail
    have hc := l4Keys_any s ks w1 _ _ a c a' c' ak ck K1.out.2 HNN.out Q1.out
    rw [← HKL.out] at hc
    refine hc.mono ?_
    clear hc
    rintro e w2 ⟨rfl, hb⟩
    rw [HK.out]
    have K2 := Lib.hid (K1.out.step hb)
    clear hb x0 x1
    go_wp2_with fail
    go_ret2
    have hno : hkB s ks = false := by
      have h := HK.out
      unfold kyB at h
      rw [(inOk_of HI.out).1, Bool.and_true] at h
      exact h
    exact HNO.out _ _ (by unfold suB; rw [hno]; simp) (K2.out.alloc _).done (ownsRow_low (rowN_new w2) (by have := K2.out.size; omega))
  have hhk : hkB s ks = true := by
    unfold kyB at hkb
    rw [Bool.and_eq_true] at hkb
    exact hkb.1
  have hok := (inOk_of hin).1
  have h10 : s.m.length ≤ 10 := (Sh.ok_iff.1 hok).1
  have HLM := Lib.hid (show LL = s.m.length by rw [HLL.out]; exact (inOk_of hin).2.1)
  have hll10 : LL ≤ 10 := by have := HLM.out; omega
  have HI := Lib.hid hin
  have HK := Lib.hid hkb
  have HHK := Lib.hid hhk
  have HSO := Lib.hid hok
  clear hin hkb hhk hok
  go_enter Try.func23, Try.ntmps23
  go_wp2_with fail
  have hc := specInputs_any s l _ _ _ a c a' c' ai ci K0.out.2 HNN.out L0.out
  rw [← HLL.out] at hc
  refine hc.mono ?_
  clear hc
  rintro e w1 ⟨rfl, hb⟩
  rw [HI.out]
  have K1 := Lib.hid (K0.out.step hb)
  have L1 := Lib.hid (L0.out.below hb)
  have Q1 := Lib.hid (Q0.out.below hb)
  clear hb x0 x1 K0 L0 Q0
  obtain ⟨x0, x1⟩ := K1.out.box
  go_wp2_with fail
  have hc := l4Keys_any s ks w1 _ _ a c a' c' ak ck K1.out.2 HNN.out Q1.out
  rw [← HKL.out] at hc
  refine hc.mono ?_
  clear hc
  rintro e w2 ⟨rfl, hb⟩
  rw [HK.out]
  have K2 := Lib.hid (K1.out.step hb)
  have L2 := Lib.hid (L1.out.below hb)
  have Q2 := Lib.hid (Q1.out.below hb)
  have hs2 := (K1.out.step hb).size
  clear hb x0 x1 K1 L1 Q1
  obtain ⟨x0, x1⟩ := K2.out.box
  go_wp2_with fail
  have hwlt : w.heap.size < w2.heap.size := by omega
  have hwne : w.heap.size ≠ w2.heap.size := by omega
  obtain ⟨v0, v1⟩ := (K2.out.alloc (.cells #[] 3)).drew.box
  have HN1 := Lib.hid (NumRow.dr (rowN_new w2))
  have HN2 := Lib.hid (show NumRow (w2.drew.alloc (.cells #[] 3)) w2.heap.size (.slice (some ⟨w2.heap.size, 0, none⟩) 0 0) [] from rowN_new w2.drew)
  have HI1 := Lib.hid ((L2.out.alloc (.cells #[] 3)).drew)
  have HI2 := Lib.hid (L2.out.drew.alloc (.cells #[] 3))
  have HLN := Lib.hid (show ([] : List Int).length + l.length ≤ 10000000 by rw [← HLL.out]; simp; omega)
  have HS1 := Lib.hid (show w2.heap.size ≤ (w2.alloc (.cells #[] 3)).drew.heap.size by simp [World.drew])
  have HS2 := Lib.hid (show w2.heap.size ≤ (w2.drew.alloc (.cells #[] 3)).heap.size by rw [World.size_alloc]; exact Nat.le_succ _)
  have HB1 := Lib.hid (show Below w2.heap.size w2 (w2.alloc (.cells #[] 3)).drew from ((Below.refl _ _).alloc (Nat.le_refl _) _).drew)
  have HB2 := Lib.hid (show Below w2.heap.size w2 (w2.drew.alloc (.cells #[] 3)) from ((Below.refl _ _).drew).alloc (Nat.le_refl _) _)
  go_region_law (first
    | (refine step_append_ints rfl (.tmp 24) (.tmp 25) rfl w2.heap.size (Value.slice (some ⟨w2.heap.size, 0, none⟩) 0 0) [] rfl HN1.out S1 l LL ai ci HLL.out rfl HI1.out HLN.out HS1.out ?_
       intro vv w4 hr4 hgr4 hn4
       have hB4 := HB1.out.trans (below_grown hgr4 HS1.out (by intro k hk; simp [Value.ownBlock] at hk; omega))
       obtain ⟨av, cv, rfl, _⟩ := ElRow.at (f := Value.int .i64) (e := 3) hr4
       obtain ⟨z0, z1⟩ := (K2.out.step hB4).box)
    | (refine step_append_ints rfl (.tmp 24) (.tmp 25) rfl w2.heap.size (Value.slice (some ⟨w2.heap.size, 0, none⟩) 0 0) [] rfl HN2.out S1 l LL ai ci HLL.out rfl HI2.out HLN.out HS2.out ?_
       intro vv w4 hr4 hgr4 hn4
       have hB4 := HB2.out.trans (below_grown hgr4 HS2.out (by intro k hk; simp [Value.ownBlock] at hk; omega))
       obtain ⟨av, cv, rfl, _⟩ := ElRow.at (f := Value.int .i64) (e := 3) hr4
       obtain ⟨z0, z1⟩ := (K2.out.step hB4).box))
  all_goals
    have hv4 := World.ownsRow.lt hr4
    have hs4 := hB4.size
    have hst : OnSt (w4.alloc (.cells #[.slice a s.m.length c, .slice a' s.t.length c', .slice av l.length cv, .slice none 0 0, .slice none 0 0] 87)) w4.heap.size (w.heap.size + 1) s a c a' c' (.slice av l.length cv) (.slice none 0 0) (.slice none 0 0) l [] [] :=
      ⟨Blk.new w4 87 _, World.ownsRow.alloc (ownsRow_low (show NumRow w4 w2.heap.size (.slice av l.length cv) l from hr4) (by omega)) _, World.ownsRow_nil _ _ _ _, World.ownsRow_nil _ _ _ _, fun e => by have := (hv4 _ e).2; omega, fun e => by simp [Value.ownBlock] at e, fun e => by simp [Value.ownBlock] at e, fun b _ e => by simp [Value.ownBlock] at e, fun b _ e => by simp [Value.ownBlock] at e, fun b e _ => by simp [Value.ownBlock] at e⟩
    have hdok : DOk s l l [] := ⟨by simp, by simp, fun x hx => (gr_S HSO.out l).d0ok x (by rw [dnS_nil] at hx; exact hx), rfl, fun x _ => by
      rw [dnS_nil]
      unfold d0S
      cases hm : s.mdI x
      · rw [vsS_free HSO.out hm]; simp
      · simp⟩
    have H5 := Lib.hid (And.intro hst (And.intro hdok (And.intro ((K2.out.step hB4).alloc (.cells #[.slice a s.m.length c, .slice a' s.t.length c', .slice av l.length cv, .slice none 0 0, .slice none 0 0] 87)) ((Q2.out.below hB4).alloc (.cells #[.slice a s.m.length c, .slice a' s.t.length c', .slice av l.length cv, .slice none 0 0, .slice none 0 0] 87)))))
    have hq4 : w.heap.size + 1 ≤ w4.heap.size := by omega
    clear hv4 hst hdok hr4 hgr4 hn4 hB4 z0 z1 v0 v1 x0 x1 HN1 HN2 HI1 HI2 HLN HS1 HS2 HB1 HB2 hwlt hwne
    go_wp2_with fail
    go_loopw [9] (fun i wr => ∃ (k : Nat) (dv uv : Value) (vl D : List Int), k ≤ KL ∧ i = .int .i64 k ∧ OnSt wr w4.heap.size (w.heap.size + 1) s a c a' c' (.slice av l.length cv) dv uv vl D [] ∧ DOk s l vl D ∧ Ks (fun b => S0 b ∧ b < w.heap.size) s a c a' c' 26 w wr ∧ IntsAt wr (fun b => S2 b ∧ b < w.heap.size) ks ak ck ∧
      (∀ q o m, Ends emS (chS s l) (dnS s D) q o m → ∃ m', Ends emS (chS s l) (d0S s) (ks.take k ++ q) (D ++ o) m') ∧ (∀ x ∈ ks.take k, okS s l x = true)) (fun i _ => KL - (intOf i).toNat)
    case atStart => exact ⟨0, _, _, l, [], by omega, rfl, H5.out.1, H5.out.2.1, H5.out.2.2.1, H5.out.2.2.2, fun q o m h => ⟨m, by rw [dnS_nil] at h; exact h⟩, by simp⟩
    case round =>
      obtain ⟨k, dv, uv, vl, D, hk, rfl, hst, hdok, hKs, hki, hsim, hall⟩ := hrel
      have H6 := Lib.hid (And.intro hst (And.intro hdok (And.intro hKs (And.intro hki (And.intro hsim hall)))))
      have hws := hKs.size
      obtain ⟨y0, y1, y2, y3, y4, _⟩ := Blk.five hst.bd
      have hDl : D.length ≤ s.m.length := nodup_bound _ D hdok.nod (fun x hx => mdI_bd (hdok.md x hx))
      obtain ⟨ad, cd, rfl, hid⟩ := hst.d.at (fun x hx => by have := mdI_bd (hdok.md x hx); unfold i64ok; omega)
      have HID := Lib.hid hid
      clear H5 hst hdok hKs hki hsim hall hid
      by_cases hlt : k < KL
      · have hlt2 : k < ks.length := by have := HKL.out; omega
        obtain ⟨bk, ok, rfl, hbkl, _, hc⟩ := H6.out.2.2.2.1.get (Below.refl _ _) hlt2
        obtain ⟨key, hkey⟩ : ∃ key, key = ks[k] := ⟨_, rfl⟩
        have hkr : 0 ≤ key ∧ key < s.m.length := by
          have h := HHK.out
          unfold hkB at h
          rw [List.all_eq_true] at h
          have h := h ks[k] (List.getElem_mem _)
          rw [decide_eq_true_eq] at h
          rw [hkey]; exact h
        rw [← hkey] at hc
        have HKEY := Lib.hid hkey
        have HL2 := Lib.hid hlt2
        have hpre : KoPre (fun b => S0 b ∧ b < w.heap.size) s l w4.heap.size (w.heap.size + 1) a c a' c' (.slice av l.length cv) (.slice ad D.length cd) uv vl D [] key wr :=
          ⟨HI.out, H6.out.2.2.1.2, fun b hb => by have := hb.2; omega, hq4, H6.out.1, H6.out.2.1, hkr.1, by omega, Hyp.nil, by simp⟩
        have HCALL := Lib.hid (ko_all (s.m.length + 1) _ _ vl D [] key wr (by simp) hpre)
        have hge := H6.out.1.ge hq4
        have HGE := Lib.hid hge
        clear hkey hkr hpre hge HID
        go_wp2_with fail
        refine HCALL.out.mono ?_
        rintro e w6 ⟨dv2, uv2, vl2, D2, x, b2, rfl, hst2, hfr2, _, _, hor⟩
        have hK2 := H6.out.2.2.1.fr hfr2 HGE.out (fun _ h => h.2)
        have hk2 := H6.out.2.2.2.1.fr hfr2 (fun b hb h => by have := HGE.out b h; have := hb.2; omega)
        have H7 := Lib.hid (And.intro hst2 (And.intro hK2 hk2))
        clear hst2 hfr2 hK2 hk2 HCALL HGE y0 y1 y2 y3 y4
        rcases hor with ⟨rfl, hoky, _, hdok2, hdk2, X, hX, _, hvis⟩ | ⟨rfl, hnok⟩
        · have hsim2 := sim_step HL2.out H6.out.2.2.2.2.1 (by rw [← HKEY.out]; exact hvis)
          have hall2 : ∀ x ∈ ks.take (k + 1), okS s l x = true := fun x hx => by
            rw [List.take_succ_eq_append_getElem HL2.out, List.mem_append, List.mem_singleton] at hx
            rcases hx with hx | rfl
            · exact H6.out.2.2.2.2.2 x hx
            · rw [← HKEY.out]; exact hoky
          have H8 := Lib.hid (And.intro hdok2 (And.intro (show ∀ q o m, Ends emS (chS s l) (dnS s D2) q o m → ∃ m', Ends emS (chS s l) (d0S s) (ks.take (k + 1) ++ q) (D2 ++ o) m' from fun q o m h => by rw [hX]; exact hsim2 q o m h) hall2))
          clear hoky hdok2 hdk2 hX hvis hsim2 hall2
          go_wp2_with fail
          go_roundw
          case rel => exact ⟨k + 1, dv2, uv2, vl2, D2, by omega, by go_num, H7.out.1, H8.out.1, H7.out.2.1, H7.out.2.2, H8.out.2.1, H8.out.2.2⟩
          case measure => simp [intOf]; omega
        · have hno : suB s l ks = false := by
            unfold suB
            rw [all_fls HL2.out (by rw [← HKEY.out]; exact hnok), Bool.and_false]
          have HF := Lib.hid hno
          clear hnok hno
          go_wp2_with fail
          go_ret2
          exact HNO.out _ _ HF.out (H7.out.2.1.alloc _).done (ownsRow_low (rowN_new w6) (by have := H7.out.2.1.size; omega))
      · have hq : ks.take k = ks := List.take_of_length_le (by have := HKL.out; omega)
        have hyes : suB s l ks = true := by
          unfold suB
          rw [HI.out, HHK.out, Bool.true_and, Bool.true_and, List.all_eq_true]
          intro x hx
          exact H6.out.2.2.2.2.2 x (by rw [hq]; exact hx)
        have hends : ∃ m', Ends emS (chS s l) (d0S s) ks D m' := by
          obtain ⟨m', h⟩ := H6.out.2.2.2.2.1 [] [] 0 (.nil _)
          rw [hq, List.append_nil, List.append_nil] at h
          exact ⟨m', h⟩
        have HY := Lib.hid (And.intro hyes hends)
        have hqr : w4.heap.size < wr.heap.size := H6.out.1.bd.lt
        clear hq hyes hends
        go_wp2_with (at_builtin; refine wpList_append_ints _ rfl (.tmp 47) (.tmp 51) rfl wr.heap.size _ [] rfl (rowN_new wr) _ D D.length ad cd rfl rfl (HID.out.alloc _) ?d1 ?d2 ?_)
        case d1 => simp; omega
        case d2 => simp
        intro vr w7 hr7 hgr7 _
        have hB7 : Below wr.heap.size wr w7 := ((Below.refl wr.heap.size wr).alloc (Nat.le_refl _) (.cells #[] 3)).trans (below_grown hgr7 (by simp) (by intro k hk; simp [Value.ownBlock] at hk; omega))
        have H8 := Lib.hid (And.intro hr7 (H6.out.2.2.1.step hB7))
        clear hr7 hgr7 hB7
        go_wp2_with fail
        go_ret2
        obtain ⟨m', h⟩ := HY.out.2
        exact HYES.out _ _ _ _ HY.out.1 h H8.out.2.done (ownsRow_low H8.out.1 (by omega))
end Go.Proofs.Ytklmpagpkeffjaa

/- DrawOrderFits -/
namespace Go.Proofs.Ytklmpagpkeffjaa
open Go.RowKit

set_option maxRecDepth 100000 in
set_option maxHeartbeats 3000000 in
theorem drawFits_any (w : World) (a : Option Addr) (n c : Nat) (h : CodeAt w a n c) : Calls Try.prog 30 #[.slice a n c] w fun e w' => ∃ (s : Sh) (a : Option Addr) (c : Nat) (a' : Option Addr) (c' : Nat) (l : List Int) (ai : Option Addr) (ci : Nat) (o : List Int) (ao : Option Addr) (co : Nat), e = .returned (.tuple #[.agg #[.slice a s.m.length c, .slice a' s.t.length c'], .slice ai l.length ci, .slice ao o.length co]) ∧
    ShAt w' (fun _ => True) s a c a' c' ∧ IntsAt w' (fun _ => True) l ai ci ∧ IntsAt w' (fun _ => True) o ao co ∧ s.t.length = s.m.length ∧ s.m.length ≤ 8 ∧ nodesL s.t ≤ 120 ∧ l.length ≤ 9 ∧ o.length ≤ 160 ∧ Below w.heap.size w w' := by
  have HC := Lib.hid (h.alloc (.cells #[.slice none 0 0, .slice none 0 0] 26))
  clear h
  go_enter Try.func30, Try.ntmps30
  go_wp2_with fail
  refine (open_any _ a n c HC.out).mono ?_
  rintro e w1 ⟨rfl, hrd, hb⟩
  have hsz1 := hb.size
  simp only [World.size_alloc] at hsz1 hrd hb
  have HK1 := Lib.hid ((Blk.new w 26 #[.slice none 0 0, .slice none 0 0]).below hb (by omega))
  have HE1 := Lib.hid (And.intro hrd (below_of_box hb))
  have hlt1 : w.heap.size + 1 < w1.heap.size := hrd.lt
  clear hrd hb HC
  go_wp2_with fail
  refine (sheetD_any _ (w.heap.size + 1) 0 ?_ (by omega)).mono ?_
  · exact HE1.out.1
  rintro e w2 ⟨s, v, a', c', q, rfl, hsh, htl, hml, hnl, _, hq2, hrd, ho⟩
  obtain ⟨av, cv, rfl, _⟩ := ElRow.at hsh.row
  have hsz2 := ho.size
  have HK2 := Lib.hid ((HK1.out.only ho (by omega)).alloc (.cells #[.slice av s.m.length cv, .slice a' s.t.length c'] 26))
  have HT2 := Lib.hid (Blk.new w2 26 #[.slice av s.m.length cv, .slice a' s.t.length c'])
  have hB2 : Below w.heap.size w w2 := HE1.out.2.trans ⟨ho.os, ho.tape, ho.output, ho.size, fun k hk => ho.block k (by omega) (by intro e; injection e; omega)⟩
  have HX2 := Lib.hid (hB2.alloc (by omega) (.cells #[.slice av s.m.length cv, .slice a' s.t.length c'] 26))
  have HS2 := Lib.hid (hsh.alloc (.cells #[.slice av s.m.length cv, .slice a' s.t.length c'] 26))
  have HR2 := Lib.hid (hrd.alloc (.cells #[.slice av s.m.length cv, .slice a' s.t.length c'] 26))
  have HTL := Lib.hid htl
  clear hrd ho hB2 HK1 HE1 hsh htl
  go_wp2_with fail
  refine (inputs_any _ (w.heap.size + 1) q av s.m.length cv a' s.t.length c' HR2.out (by omega) hml).mono ?_
  rintro e w3 ⟨l, v, q3, rfl, hn, hl, hlb, _, _, hrd, ho⟩
  have hsz3 := ho.size
  simp only [World.size_alloc] at hsz3 hn
  obtain ⟨ai, ci, rfl, _⟩ := NumRow.at (show NumRow w3 _ v l from hn) (by intro x hx; have := hlb x hx; unfold i64ok; omega)
  have HK3 := Lib.hid (HK2.out.only ho (by omega))
  have HT3 := Lib.hid (HT2.out.only ho (by omega))
  have HX3 := Lib.hid (show Below w.heap.size w w3 from HX2.out.trans ⟨ho.os, ho.tape, ho.output, ho.size, fun k hk => ho.block k (by simp; omega) (by intro e; injection e; omega)⟩)
  have HS3 := Lib.hid (HS2.out.only ho (by omega))
  have HN3 := Lib.hid hn
  have HR3 := Lib.hid hrd
  have HLB := Lib.hid hlb
  clear hn hlb hrd ho HK2 HT2 HX2 HS2 HR2
  obtain ⟨u0, u1, _, _⟩ := HT3.out.two
  have HKY := Lib.hid (keysD_any w3.drew (w.heap.size + 1) q3 av s.m.length cv a' s.t.length c' (HR3.out.keep (fun _ _ => rfl)) (by omega) hml)
  have HT4 := Lib.hid (show ∀ w4, Only (w.heap.size + 1) w3.drew w4 → Blk w4 w2.heap.size 26 #[.slice av s.m.length cv, .slice a' s.t.length c'] from fun w4 ho => Blk.only (w := w3.drew) HT3.out ho (by omega))
  have HSUS := Lib.hid (show ∀ (w4 : World) (ks : List Int) (v : Value), Only (w.heap.size + 1) w3.drew w4 → NumRow w4 w3.heap.size v ks → (∀ x ∈ ks, -1 ≤ x ∧ x ≤ 97) → ks.length ≤ 9 → ∃ ak ck, v = .slice ak ks.length ck ∧ Calls Try.prog 23 #[.agg #[.slice av s.m.length cv, .slice a' s.t.length c'], .slice ai l.length ci, .slice ak ks.length ck] w4 (OrP (suB s l ks) (suL s l ks) w4) from fun w4 ks v ho hn hb hl => by
    obtain ⟨ak, ck, rfl, hik⟩ := hn.at (fun x hx => by have := hb x hx; unfold i64ok; omega)
    have h1 := HS3.out.only (show Only (w.heap.size + 1) w3 w4 from (Only.drewN (Only.refl _ w3) 1).trans ho) (by omega)
    obtain ⟨a6, c6, e6, h2⟩ := h1.at
    simp only [Value.slice.injEq, true_and] at e6
    obtain ⟨rfl, rfl⟩ := e6
    have h3 := NumRow.only HN3.out (show Only (w.heap.size + 1) w3 w4 from (Only.drewN (Only.refl _ w3) 1).trans ho) (by omega)
    obtain ⟨a7, c7, e7, h4⟩ := NumRow.at (show NumRow _ _ _ l from h3) (by intro x hx; have := HLB.out x hx; unfold i64ok; omega)
    simp only [Value.slice.injEq, true_and] at e7
    obtain ⟨rfl, rfl⟩ := e7
    exact ⟨ak, ck, rfl, specSuspend_any s l ks w4 _ _ _ av cv a' c' ai ci ak ck h2 (by omega) h4 hik (by omega)⟩)
  go_wp2_with fail
  go_region_with (first
    | (go_at_call 51
       refine HKY.out.mono ?_
       rintro e w4 ⟨ks, vk, q4, rfl, hn4, hkl, hkb, hq41, hq42, hrd4, ho4⟩
       obtain ⟨ak, ck, rfl, hsus⟩ := HSUS.out w4 ks vk ho4 hn4 hkb hkl
       obtain ⟨z0, z1, _, _⟩ := (HT4.out w4 ho4).two)
    | (go_at_call 23
       go_must (refine hsus.mono ?_
                rintro e w5 ⟨hb5, v5, rfl, hr5⟩)))
  all_goals
    have hbd := suL_bd s l ks
    obtain ⟨o, hoo⟩ : ∃ o, o = suL s l ks := ⟨_, rfl⟩
    rw [← hoo] at hbd hr5
    have HBD := Lib.hid hbd.1
    obtain ⟨ao, co, rfl, _⟩ := hr5.at (fun x hx => by have := hbd.1 x hx; unfold i64ok; omega)
    obtain ⟨OL, hOL⟩ : ∃ n, n = o.length := ⟨_, rfl⟩
    have HOL := Lib.hid hOL
    rw [← hOL] at hr5 hbd ⊢
    have hol := hbd.2
    have ho35 : Only (w.heap.size + 1) w3 w5 := ((Only.drewN (Only.refl _ w3) 1).trans ho4).trans (Only.of_below hb5)
    have hs4 : w3.heap.size ≤ w4.heap.size := ho4.size
    have hs5 := hb5.size
    have H5K := Lib.hid (HK3.out.only ho35 (by omega))
    have H5T := Lib.hid (HT3.out.only ho35 (by omega))
    have H5X := Lib.hid (show Below w.heap.size w w5 from HX3.out.trans ⟨ho35.os, ho35.tape, ho35.output, ho35.size, fun k hk => ho35.block k (by omega) (by intro e; injection e; omega)⟩)
    have H5S := Lib.hid (HS3.out.only ho35 (by omega))
    have H5N := Lib.hid (NumRow.only HN3.out ho35 (by omega))
    have H5O := Lib.hid hr5
    have H5R := Lib.hid (hrd4.below hb5)
    have hoc : OL ≤ co ∧ co ≤ 9223372036854775807 := by
      have h := ElRow.at (f := Value.int .i64) (e := 3) hr5
      obtain ⟨_, _, h1, h2⟩ := h
      simp only [Value.slice.injEq] at h1
      obtain ⟨_, h1, rfl⟩ := h1
      exact ⟨by rw [h1]; exact h2.1, h2.2.1⟩
    clear hbd hoo hOL hr5 ho35 hb5 ho4 hrd4 hn4 hsus z0 z1 u0 u1 HKY HT4 HSUS hkl hkb HK3 HT3 HX3 HS3 HR3
    go_wp2_with fail
    refine (pick_any _ (w.heap.size + 1) q4 3 H5R.out (by omega) (by omega) (by omega)).mono ?_
    rintro e w6 ⟨r, rfl, h0, h1, hrd, ho⟩
    have hs6 := ho.size
    have H6K := Lib.hid (H5K.out.only ho (by omega))
    have H6T := Lib.hid (H5T.out.only ho (by omega))
    have H6X := Lib.hid (show Below w.heap.size w w6 from H5X.out.trans ⟨ho.os, ho.tape, ho.output, ho.size, fun k hk => ho.block k (by omega) (by intro e; injection e; omega)⟩)
    have H6S := Lib.hid (H5S.out.only ho (by omega))
    have H6N := Lib.hid (NumRow.only H5N.out ho (by omega))
    have H6O := Lib.hid (NumRow.only H5O.out ho (by omega))
    have H6R := Lib.hid hrd
    clear h1 hrd ho H5K H5T H5X H5S H5N H5O H5R
    by_cases hr0 : r = 0
    · subst hr0
      by_cases h1L : 1 < OL
      · have hgt : decide ((1 : Int) < (OL : Int)) = true := decide_eq_true (by omega)
        have hwr : IntKind.i64.wrap ((OL : Int) - 1) = (OL : Int) - 1 := IntWalk.i64_in _ ⟨by omega, by omega⟩
        go_wp2_with fail
        refine (pick_any _ (w.heap.size + 1) (q4 + 1) ((OL : Int) - 1) H6R.out (by omega) (by omega) (by omega)).mono ?_
        rintro e w7 ⟨r2, rfl, h0', h1', hrd, ho⟩
        have hr2 := h1' (by omega)
        obtain ⟨kn, rfl⟩ : ∃ kn : Nat, r2 = kn := ⟨r2.toNat, by omega⟩
        have hs7 := ho.size
        have H7K := Lib.hid (H6K.out.only ho (by omega))
        have H7T := Lib.hid (H6T.out.only ho (by omega))
        have H7X := Lib.hid (show Below w.heap.size w w7 from H6X.out.trans ⟨ho.os, ho.tape, ho.output, ho.size, fun k hk => ho.block k (by omega) (by intro e; injection e; omega)⟩)
        have H7S := Lib.hid (H6S.out.only ho (by omega))
        have H7N := Lib.hid (NumRow.only H6N.out ho (by omega))
        have H7O := Lib.hid (NumRow.only H6O.out ho (by omega))
        clear h1' hrd ho H6K H6T H6X H6S H6N H6O H6R hwr
        obtain ⟨go, capo, hgo⟩ := own_some H7O.out (by have := HOL.out; omega)
        obtain ⟨rfl, rfl⟩ : ao = some ⟨go, 0, none⟩ ∧ co = capo := by
          simp only [Value.slice.injEq] at hgo
          exact ⟨hgo.1, hgo.2.2⟩
        have hgb := World.ownsRow.lt H7O.out go rfl
        have hk1 : kn < o.length := by have := HOL.out; omega
        have hk2 : kn + 1 < o.length := by have := HOL.out; omega
        obtain ⟨xa, hxa⟩ : ∃ x, x = o[kn] := ⟨_, rfl⟩
        obtain ⟨xb, hxb⟩ : ∃ x, x = o[kn + 1] := ⟨_, rfl⟩
        have hca : w7.cell? ⟨go, kn, none⟩ = some (.int .i64 xa) := by
          have hc := World.ownsRow.cells H7O.out (g := go) rfl kn (.int .i64 o[kn]) (by rw [List.getElem?_map, List.getElem?_eq_getElem hk1]; rfl)
          rw [hxa]; rwa [addr0] at hc
        have hcb : w7.cell? ⟨go, kn + 1, none⟩ = some (.int .i64 xb) := by
          have hc := World.ownsRow.cells H7O.out (g := go) rfl (kn + 1) (.int .i64 o[kn + 1]) (by rw [List.getElem?_map, List.getElem?_eq_getElem hk2]; rfl)
          rw [hxb]; rwa [addr0] at hc
        obtain ⟨cso, hbo⟩ := num_blk H7O.out
        have hfa := hbo.frozen kn
        have hfb := hbo.frozen (kn + 1)
        have hko : kn < OL := by omega
        have hko2 : kn + 1 < OL := by omega
        have hgne1 : go ≠ w2.heap.size := by omega
        have hgne2 : go ≠ w.heap.size := by omega
        have hxxa := Lib.hid hxa
        have hxxb := Lib.hid hxb
        clear hgo hbo hxa hxb
        have hxa := hxxa
        have hxb := hxxb
        clear hxxa hxxb
        obtain ⟨x0, x1, f0, f1⟩ := H7K.out.two
        obtain ⟨y0, y1, _, _⟩ := H7T.out.two
        have hz : w.heap.size < w7.heap.size := by omega
        go_wp2_with fail
        obtain ⟨W, hW⟩ : ∃ W, W = (w7.setCell ⟨go, kn, none⟩ (.int .i64 xb)).setCell ⟨go, kn + 1, none⟩ (.int .i64 xa) := ⟨_, rfl⟩
        have hWs : W.heap.size = w7.heap.size := by rw [hW]; simp [World.setCell]
        have h8K : Blk W w.heap.size 26 #[.slice none 0 0, .slice none 0 0] := by rw [hW]; exact (H7K.out.far (p := ⟨go, kn, none⟩) (by simp; omega) _).far (p := ⟨go, kn + 1, none⟩) (by simp; omega) _
        have h8S := (H7S.out.set_ ⟨go, kn, none⟩ (.int .i64 xb) (.inr (by simp; omega))).set_ ⟨go, kn + 1, none⟩ (.int .i64 xa) (.inr (by simp; omega))
        have hnl8 : (Value.slice ai l.length ci).ownBlock ≠ some go := fun e => by have := (World.ownsRow.lt HN3.out _ e).2; omega
        have h8N := ownsRow_setCell_other (ownsRow_setCell_other H7N.out (a := ⟨go, kn, none⟩) hnl8 (.int .i64 xb)) (a := ⟨go, kn + 1, none⟩) hnl8 (.int .i64 xa)
        have h8O := (H7O.out.set_ kn xb).set_ (kn + 1) xa
        have h8X : Below w.heap.size w W := by rw [hW]; exact (H7X.out.setCell (by simp; omega) _).setCell (by simp; omega) _
        rw [← hW] at h8S h8N h8O ⊢
        have hb5' := (h8K.set_ 0 (.slice av s.m.length cv)).set_ 1 (.slice a' s.t.length c')
        obtain ⟨z0, z1, _, _⟩ := (show Blk _ w.heap.size 26 #[.slice av s.m.length cv, .slice a' s.t.length c'] from hb5').two
        refine bodyPost_ret (v := .tuple #[.agg #[.slice av s.m.length cv, .slice a' s.t.length c'], .slice ai l.length ci, .slice (some ⟨go, 0, none⟩) OL co]) (by simp only [results, Try.results30]; simp [go_sem, z0, z1]) rfl ?_
        have hne : (Value.slice ai l.length ci).ownBlock ≠ some w.heap.size := fun e => by have := own_ge HN3.out _ e; omega
        have h1 := (h8S.set_ ⟨w.heap.size, 0, none⟩ (.slice av s.m.length cv) (.inl (by simp; omega))).set_ ⟨w.heap.size, 1, none⟩ (.slice a' s.t.length c') (.inl (by simp; omega))
        obtain ⟨a6, c6, e6, h2⟩ := h1.at
        simp only [Value.slice.injEq, true_and] at e6
        obtain ⟨rfl, rfl⟩ := e6
        have h3 := ownsRow_setCell_other (ownsRow_setCell_other h8N (a := ⟨w.heap.size, 0, none⟩) hne (.slice av s.m.length cv)) (a := ⟨w.heap.size, 1, none⟩) hne (.slice a' s.t.length c')
        obtain ⟨a7, c7, e7, h4⟩ := NumRow.at (show NumRow _ _ _ l from h3) (by intro x hx; have := HLB.out x hx; unfold i64ok; omega)
        simp only [Value.slice.injEq, true_and] at e7
        obtain ⟨rfl, rfl⟩ := e7
        have hneq : (Value.slice (some ⟨go, 0, none⟩) OL co).ownBlock ≠ some w.heap.size := fun e => by simp [Value.ownBlock] at e; omega
        have h5 := ownsRow_setCell_other (ownsRow_setCell_other h8O (a := ⟨w.heap.size, 0, none⟩) hneq (.slice av s.m.length cv)) (a := ⟨w.heap.size, 1, none⟩) hneq (.slice a' s.t.length c')
        obtain ⟨a8, c8, e8, h6⟩ := NumRow.at (show NumRow _ _ _ ((o.set kn xb).set (kn + 1) xa) from h5) (fun x hx => by
          have hxm : x ∈ o := by
            rcases List.mem_or_eq_of_mem_set hx with h | h
            · rcases List.mem_or_eq_of_mem_set h with h | h
              · exact h
              · rw [h, hxb.out]; exact List.getElem_mem _
            · rw [h, hxa.out]; exact List.getElem_mem _
          have := HBD.out x hxm; unfold i64ok; omega)
        simp only [Value.slice.injEq] at e8
        obtain ⟨rfl, hlen8, rfl⟩ := e8
        exact ⟨s, av, cv, a', c', l, ai, ci, (o.set kn xb).set (kn + 1) xa, _, co, by rw [← hlen8], h2.keep (fun _ _ => trivial) (fun _ _ _ => rfl), h4.keep (fun _ _ => trivial) (fun _ _ _ => rfl), h6.keep (fun _ _ => trivial) (fun _ _ _ => rfl), HTL.out, hml, hnl, hl, by rw [← hlen8]; omega, (h8X.setCell (Nat.le_refl _) _).setCell (Nat.le_refl _) _⟩
      · have hgt : decide ((1 : Int) < (OL : Int)) = false := decide_eq_false (by omega)
        obtain ⟨x0, x1, f0, f1⟩ := H6K.out.two
        obtain ⟨y0, y1, _, _⟩ := H6T.out.two
        have hz : w.heap.size < w6.heap.size := by omega
        go_wp2_with fail
        have hb5' := (H6K.out.set_ 0 (.slice av s.m.length cv)).set_ 1 (.slice a' s.t.length c')
        obtain ⟨z0, z1, _, _⟩ := (show Blk _ w.heap.size 26 #[.slice av s.m.length cv, .slice a' s.t.length c'] from hb5').two
        refine bodyPost_ret (v := .tuple #[.agg #[.slice av s.m.length cv, .slice a' s.t.length c'], .slice ai l.length ci, .slice ao OL co]) (by simp only [results, Try.results30]; simp [go_sem, z0, z1]) rfl ?_
        have hne : (Value.slice ai l.length ci).ownBlock ≠ some w.heap.size := fun e => by have := own_ge HN3.out _ e; omega
        have h1 := (H6S.out.set_ ⟨w.heap.size, 0, none⟩ (.slice av s.m.length cv) (.inl (by simp; omega))).set_ ⟨w.heap.size, 1, none⟩ (.slice a' s.t.length c') (.inl (by simp; omega))
        obtain ⟨a6, c6, e6, h2⟩ := h1.at
        simp only [Value.slice.injEq, true_and] at e6
        obtain ⟨rfl, rfl⟩ := e6
        have h3 := ownsRow_setCell_other (ownsRow_setCell_other H6N.out (a := ⟨w.heap.size, 0, none⟩) hne (.slice av s.m.length cv)) (a := ⟨w.heap.size, 1, none⟩) hne (.slice a' s.t.length c')
        obtain ⟨a7, c7, e7, h4⟩ := NumRow.at (show NumRow _ _ _ l from h3) (by intro x hx; have := HLB.out x hx; unfold i64ok; omega)
        simp only [Value.slice.injEq, true_and] at e7
        obtain ⟨rfl, rfl⟩ := e7
        have hneq : (Value.slice ao OL co).ownBlock ≠ some w.heap.size := fun e => by have := own_ge H6O.out _ e; omega
        have h5 := ownsRow_setCell_other (ownsRow_setCell_other H6O.out (a := ⟨w.heap.size, 0, none⟩) hneq (.slice av s.m.length cv)) (a := ⟨w.heap.size, 1, none⟩) hneq (.slice a' s.t.length c')
        obtain ⟨a8, c8, e8, h6⟩ := NumRow.at (show NumRow _ _ _ o from h5) (fun x hx => by have := HBD.out x hx; unfold i64ok; omega)
        simp only [Value.slice.injEq] at e8
        obtain ⟨rfl, hlen8, rfl⟩ := e8
        exact ⟨s, av, cv, a', c', l, ai, ci, o, ao, co, by rw [← hlen8], h2.keep (fun _ _ => trivial) (fun _ _ _ => rfl), h4.keep (fun _ _ => trivial) (fun _ _ _ => rfl), h6.keep (fun _ _ => trivial) (fun _ _ _ => rfl), HTL.out, hml, hnl, hl, by rw [← hlen8]; omega, (H6X.out.setCell (Nat.le_refl _) _).setCell (Nat.le_refl _) _⟩
    · have hne0 : (r == 0) = false := by simpa using hr0
      obtain ⟨x0, x1, f0, f1⟩ := H6K.out.two
      obtain ⟨y0, y1, _, _⟩ := H6T.out.two
      have hz : w.heap.size < w6.heap.size := by omega
      go_wp2_with fail
      have hb5' := (H6K.out.set_ 0 (.slice av s.m.length cv)).set_ 1 (.slice a' s.t.length c')
      obtain ⟨z0, z1, _, _⟩ := (show Blk _ w.heap.size 26 #[.slice av s.m.length cv, .slice a' s.t.length c'] from hb5').two
      refine bodyPost_ret (v := .tuple #[.agg #[.slice av s.m.length cv, .slice a' s.t.length c'], .slice ai l.length ci, .slice ao OL co]) (by simp only [results, Try.results30]; simp [go_sem, z0, z1]) rfl ?_
      have hne : (Value.slice ai l.length ci).ownBlock ≠ some w.heap.size := fun e => by have := own_ge HN3.out _ e; omega
      have h1 := (H6S.out.set_ ⟨w.heap.size, 0, none⟩ (.slice av s.m.length cv) (.inl (by simp; omega))).set_ ⟨w.heap.size, 1, none⟩ (.slice a' s.t.length c') (.inl (by simp; omega))
      obtain ⟨a6, c6, e6, h2⟩ := h1.at
      simp only [Value.slice.injEq, true_and] at e6
      obtain ⟨rfl, rfl⟩ := e6
      have h3 := ownsRow_setCell_other (ownsRow_setCell_other H6N.out (a := ⟨w.heap.size, 0, none⟩) hne (.slice av s.m.length cv)) (a := ⟨w.heap.size, 1, none⟩) hne (.slice a' s.t.length c')
      obtain ⟨a7, c7, e7, h4⟩ := NumRow.at (show NumRow _ _ _ l from h3) (by intro x hx; have := HLB.out x hx; unfold i64ok; omega)
      simp only [Value.slice.injEq, true_and] at e7
      obtain ⟨rfl, rfl⟩ := e7
      have hneq : (Value.slice ao OL co).ownBlock ≠ some w.heap.size := fun e => by have := own_ge H6O.out _ e; omega
      have h5 := ownsRow_setCell_other (ownsRow_setCell_other H6O.out (a := ⟨w.heap.size, 0, none⟩) hneq (.slice av s.m.length cv)) (a := ⟨w.heap.size, 1, none⟩) hneq (.slice a' s.t.length c')
      obtain ⟨a8, c8, e8, h6⟩ := NumRow.at (show NumRow _ _ _ o from h5) (fun x hx => by have := HBD.out x hx; unfold i64ok; omega)
      simp only [Value.slice.injEq] at e8
      obtain ⟨rfl, hlen8, rfl⟩ := e8
      exact ⟨s, av, cv, a', c', l, ai, ci, o, ao, co, by rw [← hlen8], h2.keep (fun _ _ => trivial) (fun _ _ _ => rfl), h4.keep (fun _ _ => trivial) (fun _ _ _ => rfl), h6.keep (fun _ _ => trivial) (fun _ _ _ => rfl), HTL.out, hml, hnl, hl, by rw [← hlen8]; omega, (H6X.out.setCell (Nat.le_refl _) _).setCell (Nat.le_refl _) _⟩
end Go.Proofs.Ytklmpagpkeffjaa

/- impl.OrderFits -/
namespace Go.Proofs.Ytklmpagpkeffjaa
open Go.RowKit

set_option maxRecDepth 100000 in
set_option maxHeartbeats 4000000 in
theorem implFits_any (s : Sh) (l o : List Int) (w : World) (S0 S1 S2 : Nat → Prop) (a : Option Addr) (c : Nat) (a' : Option Addr) (c' : Nat) (ai : Option Addr) (ci : Nat) (ao : Option Addr) (co : Nat) (h0 : ShAt w S0 s a c a' c') (hl : IntsAt w S1 l ai ci) (ho : IntsAt w S2 o ao co) :
    Calls Try.prog 20 #[.agg #[.slice a s.m.length c, .slice a' s.t.length c'], .slice ai l.length ci, .slice ao o.length co] w fun e w' => e = .returned (.bool (ofB s l o)) ∧ Below w.heap.size w w' := by
  obtain ⟨S, hSd⟩ : ∃ S : Nat → Prop, S = fun b => S0 b ∧ b < w.heap.size := ⟨_, rfl⟩
  have hSl : ∀ b, S b → b < w.heap.size := by rw [hSd]; exact fun b h => h.2
  have h : ShAt w S s a c a' c' := by rw [hSd]; exact h0.lim
  have HSL := Lib.hid hSl
  have K0 := Lib.hid (Ks.start (ty := 26) h)
  have L0 := Lib.hid (hl.alloc (.cells #[.slice a s.m.length c, .slice a' s.t.length c'] 26))
  have O0 := Lib.hid (ho.lim.alloc (.cells #[.slice a s.m.length c, .slice a' s.t.length c'] 26))
  have hol : o.length ≤ 9223372036854775807 := by have := ho.1; have := ho.2.1; omega
  obtain ⟨OL, hOL⟩ : ∃ n, n = o.length := ⟨_, rfl⟩
  have HOL := Lib.hid hOL
  rw [← hOL] at hol ⊢
  obtain ⟨r, hr⟩ : ∃ r, r = ofB s l o := ⟨_, rfl⟩
  have HR := Lib.hid hr
  rw [← hr]
  clear h h0 hl ho hSd hSl hOL hr
  obtain ⟨x0, x1⟩ := K0.out.box
  have hmm := @run_makeMap Try.prog
  cases hba : baB s l
  · have HB := Lib.hid hba
    clear hba
    go_enter Try.func20, Try.ntmps20
    go_wp2_with fail
    refine (implAll_any s l _ S _ a c a' c' ai ci K0.out.2 L0.out).mono ?_
    rintro e w1 ⟨hb, v, rfl, _⟩
    rw [HB.out]
    have K1 := Lib.hid (K0.out.step hb)
    clear hb x0 x1
    go_wp2_with fail
    go_ret
    exact ⟨ret_bool (by rw [HR.out]; unfold ofB; rw [HB.out]; rfl), K1.out.done⟩
  · have HB := Lib.hid hba
    have hrr : r = ofTo s (vf (baL s l)) o o.length := by rw [HR.out]; unfold ofB; rw [hba]; rfl
    have HRR := Lib.hid hrr
    clear hba hrr
    go_enter Try.func20, Try.ntmps20
    go_wp2_with fail
    refine (implAll_any s l _ S _ a c a' c' ai ci K0.out.2 L0.out).mono ?_
    rintro e w1 ⟨hb, v, rfl, hrow⟩
    rw [HB.out]
    obtain ⟨av, cv, rfl, hia⟩ := hrow.at (fun x hx => by have := (baL_bd s l).1 x hx; unfold i64ok; omega)
    have hs1 := (K0.out.step hb).size
    have K1 := Lib.hid ((K0.out.step hb).alloc (.map #[] 0))
    have O1 := Lib.hid ((O0.out.below hb).alloc (.map #[] 0))
    have V1 := Lib.hid (hia.lim.alloc (.map #[] 0))
    have M1 := Lib.hid (MapB.made w1)
    clear hb hrow hia x0 x1 K0 L0 O0
    go_wp2_with fail
    go_loopw [25] (fun i wr => ∃ k : Nat, k ≤ OL ∧ i = .int .i64 k ∧ ofTo s (vf (baL s l)) o k = true ∧ Ks S s a c a' c' 26 w wr ∧ IntsAt wr (fun b => S2 b ∧ b < w.heap.size) o ao co ∧ IntsAt wr (fun b => w.heap.size + 1 ≤ b ∧ b < w1.heap.size) (baL s l) av cv ∧ MapB wr w1.heap.size k (fun x => decide (x ∈ o.take k)) ∧ w1.heap.size < wr.heap.size) (fun i _ => OL - (intOf i).toNat)
    case atStart => exact ⟨0, by omega, rfl, ofTo_zero _ _ _, K1.out, O1.out, V1.out.weaken (fun b hb => ⟨by simpa using hb.1, by simpa using hb.2⟩), M1.out.congr (fun _ _ => by simp), by simp⟩
    case round =>
      obtain ⟨k, hk, rfl, hall, hK, hO, hV, hM, hgl⟩ := hrel
      have H2 := Lib.hid (And.intro hK (And.intro hO (And.intro hV hM)))
      have HA := Lib.hid hall
      obtain ⟨x0, x1⟩ := hK.box
      clear hall hK hO hV hM K1 O1 V1 M1
      by_cases hlt : k < OL
      · have hlt2 : k < o.length := by have := HOL.out; omega
        obtain ⟨b, ob, rfl, hbl, _, hc⟩ := H2.out.2.1.get (Below.refl _ _) hlt2
        obtain ⟨key, hkey⟩ : ∃ key, key = o[k] := ⟨_, rfl⟩
        have hkok : i64ok key := by rw [hkey]; exact H2.out.2.1.2.2.1 _ (List.getElem_mem _)
        rw [← hkey] at hc
        have HKEY := Lib.hid (And.intro hkey hkok)
        have HL2 := Lib.hid hlt2
        have HSUC := Lib.hid (ofTo_succ s (vf (baL s l)) o hlt2)
        have HNO := Lib.hid (show ofOne s (vf (baL s l)) (o.take k) key = false → r = false from fun h => by
          rw [HRR.out]
          exact ofTo_false hlt2 (Nat.le_refl _) (by rw [← hkey]; exact h))
        cases hmk : s.mdI key
        · have HMK := Lib.hid hmk
          clear hkey hmk hkok
          go_wp2_with fail
          refine (isMade_any s _ S a c a' c' key H2.out.1.2).mono ?_
          rintro e w2 ⟨rfl, hb⟩
          rw [HMK.out]
          have K2 := Lib.hid (H2.out.1.step hb)
          clear hb x0 x1 hc
          go_wp2_with fail
          go_ret
          exact ⟨ret_bool (HNO.out (by unfold ofOne; rw [HMK.out]; rfl)).symm, K2.out.done⟩
        · have HMK := Lib.hid hmk
          have hkb := mdI_bd hmk
          obtain ⟨kn, rfl⟩ : ∃ kn : Nat, key = kn := ⟨key.toNat, by omega⟩
          have hkn : kn < s.m.length := by omega
          have HTL := Lib.hid (show s.t.length = s.m.length from (Sh.ok_iff.1 (ok_of_ba HB.out)).2.1)
          have h10 : s.m.length ≤ 10 := (Sh.ok_iff.1 (ok_of_ba HB.out)).1
          clear hkey hmk hkok hkb
          obtain ⟨p, hp⟩ : ∃ p, p = decide ((kn : Int) ∈ o.take k) := ⟨_, rfl⟩
          have HP := Lib.hid hp
          clear hp
          go_wp2_with fail
          refine (isMade_any s _ S a c a' c' kn H2.out.1.2).mono ?_
          rintro e w2 ⟨rfl, hb⟩
          rw [HMK.out]
          have hlook := (H2.out.2.2.2.step hb).look Try.underlying72 HKEY.out.2
          rw [← HP.out] at hlook
          have H3 := Lib.hid (And.intro (H2.out.1.step hb) (And.intro (H2.out.2.1.below hb) (And.intro (H2.out.2.2.1.below hb) (H2.out.2.2.2.step hb))))
          have hgl3 : w1.heap.size < w2.heap.size := Nat.lt_of_lt_of_le hgl hb.size
          clear hb x0 x1 hc H2 hgl
          obtain ⟨x0, x1⟩ := H3.out.1.box
          cases p
          · have hkt : kn < s.t.length := by have := HTL.out; omega
            obtain ⟨b', o', a2, c2, rfl, hbl', hSb', e0, e1, e2, hat, _, _⟩ := H3.out.1.2.2.elem (Below.refl _ _) hkt
            have htk : s.t[kn] = s.tkI (kn : Int) := by unfold Sh.tkI; rw [Int.toNat_natCast]; exact (getD_len hkt).symm
            rw [htk] at hat e0 e1 e2
            have HAT := Lib.hid hat
            clear hat htk
            go_wp2_with fail
            refine (implUses_any (s.tkI (kn : Int)) (baL s l) w2 _ _ a2 av c2 cv HAT.out H3.out.2.2.1).mono ?_
            rintro e w4 ⟨hb, v, rfl, hrow⟩
            rw [if_pos (tkI_ok HB.out _)] at hrow
            have hks := (kys_ok (tkI_ok HB.out (kn : Int)))
            obtain ⟨us, hus⟩ : ∃ us, us = usesL ((s.tkI (kn : Int)).kys (vf (baL s l))) := ⟨_, rfl⟩
            have hul : us.length ≤ 15 := by
              rw [hus]
              have := usesL_len ((s.tkI (kn : Int)).kys (vf (baL s l)))
              omega
            rw [← hus] at hrow
            have hub : ∀ x ∈ us, i64ok x := fun x hx => by
              rw [hus] at hx
              have := hks.1 x (usesL_mem.1 hx)
              unfold i64ok; omega
            obtain ⟨au, cu, rfl, hiu⟩ := hrow.at hub
            have HUS := Lib.hid (And.intro hus (And.intro hul hub))
            have H4 := Lib.hid (And.intro (H3.out.1.step hb) (And.intro (H3.out.2.1.below hb) (And.intro (H3.out.2.2.1.below hb) (H3.out.2.2.2.step hb))))
            have HIU := Lib.hid hiu
            have hgl4 : w1.heap.size < w4.heap.size := Nat.lt_of_lt_of_le hgl3 hb.size
            clear hb hrow hks hus hul hub hiu x0 x1 e0 e1 e2 hlook H3 HAT hgl3
            obtain ⟨x0, x1⟩ := H4.out.1.box
            go_wp2_with fail
            refine (madeOf_any s us _ S _ a c (some ⟨b', o', none⟩) c' au cu H4.out.1.2 HIU.out (by have := HUS.out.2.1; omega)).mono ?_
            rintro e w5 ⟨v, rfl, hrow, hb⟩
            obtain ⟨am, cm, rfl, him⟩ := hrow.at (fun x hx => HUS.out.2.2 x (List.mem_filter.1 hx).1)
            have H5 := Lib.hid (And.intro (H4.out.1.step hb) (And.intro (H4.out.2.1.below hb) (And.intro (H4.out.2.2.1.below hb) (H4.out.2.2.2.step hb))))
            have HIM := Lib.hid him
            have hgl5 : w1.heap.size < w5.heap.size := Nat.lt_of_lt_of_le hgl4 hb.size
            clear hb hrow him x0 x1 HIU H4 hgl4
            go_wp2_with fail
            refine (allBuilt_any (us.filter s.mdI) w5 _ am cm w1.heap.size k _ HIM.out H5.out.2.2.2).mono ?_
            rintro e w6 ⟨rfl, rfl⟩
            obtain ⟨p, hp⟩ : ∃ p, p = (us.filter s.mdI).all (fun x => decide (x ∈ o.take k)) := ⟨_, rfl⟩
            rw [← hp]
            have hone : ofOne s (vf (baL s l)) (o.take k) (kn : Int) = p := by
              unfold ofOne
              rw [HMK.out, ← HP.out, ← HUS.out.1, hp]
              rfl
            have HONE := Lib.hid hone
            clear hp hone HIM
            cases p
            · go_wp2_with fail
              go_ret
              exact ⟨ret_bool (HNO.out HONE.out).symm, H5.out.1.done⟩
            · have hml : maxLen = 9223372036854775807 := rfl
              have HML := Lib.hid hml
              clear hml
              go_wp2_with (at_mapUpdate; refine wpList_put_mapB _ rfl _ _ _ 72 rfl Try.underlying72 w1.heap.size k _ rfl H5.out.2.2.2 (by rw [HML.out]; omega) (kn : Int) rfl HKEY.out.2 rfl ?_)
              intro w7 hM7 hf7
              have hK7 : Ks S s a c (some ⟨b', o', none⟩) c' 26 w w7 := H5.out.1.fr hf7 (fun b hb => by omega) HSL.out
              have hO7 := H5.out.2.1.fr hf7 (fun b hb h => by have := hb.2; omega)
              have hV7 := H5.out.2.2.1.fr hf7 (fun b hb h => by have := hb.2; omega)
              have hM8 : MapB w7 w1.heap.size (k + 1) (fun x => decide (x ∈ o.take (k + 1))) := hM7.congr (fun x _ => by
                rw [List.take_succ_eq_append_getElem HL2.out, ← HKEY.out.1]
                simp only [List.mem_append, List.mem_singleton, Bool.decide_or])
              have hgl7 : w1.heap.size < w7.heap.size := Nat.lt_of_lt_of_le hgl5 hf7.size
              have hall7 : ofTo s (vf (baL s l)) o (k + 1) = true := by rw [HSUC.out, HA.out, ← HKEY.out.1, HONE.out]; rfl
              have H7 := Lib.hid (And.intro hK7 (And.intro hO7 (And.intro hV7 (And.intro hM8 (And.intro hgl7 hall7)))))
              clear hM7 hf7 hK7 hO7 hV7 hM8 hgl7 hall7 H5 hgl5
              go_wp2_with fail
              go_roundw
              case rel => exact ⟨k + 1, by omega, by go_num, H7.out.2.2.2.2.2, H7.out.1, H7.out.2.1, H7.out.2.2.1, H7.out.2.2.2.1, H7.out.2.2.2.2.1⟩
              case measure => simp [intOf]; omega
          · go_wp2_with fail
            go_ret
            exact ⟨ret_bool (HNO.out (by unfold ofOne; rw [HMK.out, ← HP.out]; rfl)).symm, H3.out.1.done⟩
      · have hall : r = true := by
          have := HA.out
          rw [HRR.out, ← HOL.out]
          obtain rfl : k = OL := by omega
          exact this
        have HALL := Lib.hid hall
        clear hall
        go_wp2_with fail
        go_ret
        exact ⟨ret_bool HALL.out.symm, H2.out.1.done⟩
end Go.Proofs.Ytklmpagpkeffjaa

/- the walk of laws.FnOrderFits -/
namespace Go.Proofs.Ytklmpagpkeffjaa
open Go.RowKit

/-- An order without its last keys is one. -/
theorem ofB_take {s : Sh} {l o : List Int} (m : Nat) (h : ofB s l o = true) : ofB s l (o.take m) = true := by
  unfold ofB at h ⊢
  rw [Bool.and_eq_true] at h ⊢
  refine ⟨h.1, ?_⟩
  have h2 := h.2
  unfold ofTo at h2 ⊢
  rw [List.all_eq_true] at h2 ⊢
  intro i hi
  rw [List.mem_range, List.length_take] at hi
  have h3 := h2 i (List.mem_range.2 (by omega))
  rw [List.take_take, Nat.min_eq_left (by omega)]
  rw [List.getD_eq_getElem?_getD] at h3 ⊢
  rw [List.getElem?_take, if_pos (by omega)]
  exact h3

set_option maxRecDepth 100000 in
set_option maxHeartbeats 1000000 in
theorem walk_orderFits (w : World) (a : Option Addr) (n c : Nat) (h : CodeAt w a n c) :
    Calls Try.prog 7 #[.slice a n c] w fun e w' => e = .returned (.bool true) ∧ Below w.heap.size w w' := by
  have hn := h.1
  have hc := h.2.1
  have HC := Lib.hid h
  clear h
  by_cases hl : 1048576 < n
  · go_enter Try.func7, Try.ntmps7
    go_wp2_with fail
    go_ret
    exact ⟨rfl, Below.refl _ _⟩
  go_enter Try.func7, Try.ntmps7
  go_wp2_with fail
  refine (drawFits_any _ a n c HC.out).mono ?_
  rintro e w1 ⟨s, av, cv, a', c', l, ai, ci, o, ao, co, rfl, hat, hin, hio, htl, hml, hnl, hll, hol, hb⟩
  have hsz1 := hb.size
  have HT1 := Lib.hid (hat.alloc (.cells #[.slice av s.m.length cv, .slice a' s.t.length c'] 26))
  have HI1 := Lib.hid (hin.alloc (.cells #[.slice av s.m.length cv, .slice a' s.t.length c'] 26))
  have HO1 := Lib.hid (hio.alloc (.cells #[.slice av s.m.length cv, .slice a' s.t.length c'] 26))
  have HB1 := Lib.hid (Blk.new w1 26 #[.slice av s.m.length cv, .slice a' s.t.length c'])
  have HX1 := Lib.hid (hb.alloc hsz1 (.cells #[.slice av s.m.length cv, .slice a' s.t.length c'] 26))
  have hoc : o.length ≤ co ∧ co ≤ 9223372036854775807 := ⟨hio.1, hio.2.1⟩
  obtain ⟨OL, hOL⟩ : ∃ n, n = o.length := ⟨_, rfl⟩
  have HOL := Lib.hid hOL
  rw [← hOL] at hoc hol
  obtain ⟨z, hz⟩ : ∃ z, z = ofB s l o := ⟨_, rfl⟩
  have HZ := Lib.hid hz
  clear hat hin hio hb HC htl hz hOL
  rw [← HOL.out]
  go_wp2_with fail
  have hcc := implFits_any s l o _ _ _ _ av cv a' c' ai ci ao co HT1.out HI1.out HO1.out
  rw [← HOL.out] at hcc
  refine hcc.mono ?_
  clear hcc
  rintro e w2 ⟨rfl, hb⟩
  rw [← HZ.out]
  have hsz2 := hb.size
  simp only [World.size_alloc] at hsz2
  have HT2 := Lib.hid (HT1.out.below hb)
  have HI2 := Lib.hid (HI1.out.below hb)
  have HO2 := Lib.hid (HO1.out.below hb)
  have HB2 := Lib.hid (HB1.out.below hb (by simp))
  have HX2 := Lib.hid (HX1.out.trans (hb.mono (by simp; omega)))
  clear hb HT1 HI1 HO1 HB1 HX1
  obtain ⟨x0, x1, f0, f1⟩ := HB2.out.two
  go_wp2_with fail
  have hcc := specFits_any s l o _ _ _ _ av cv a' c' ai ci ao co HT2.out (by omega) HI2.out HO2.out
  rw [← HOL.out] at hcc
  refine hcc.mono ?_
  clear hcc
  rintro e w3 ⟨rfl, hb⟩
  rw [← HZ.out]
  have hsz3 := hb.size
  have HT3 := Lib.hid (HT2.out.below hb)
  have HI3 := Lib.hid (HI2.out.below hb)
  have HO3 := Lib.hid (HO2.out.below hb)
  have HB3 := Lib.hid (HB2.out.below hb (by omega))
  have HX3 := Lib.hid (HX2.out.trans (hb.mono (by omega)))
  clear hb HT2 HI2 HO2 HB2 HX2 x0 x1 f0 f1
  have hnb : (z != z) = false := by simp
  obtain ⟨x0, x1, f0, f1⟩ := HB3.out.two
  cases z
  · go_wp2_with fail
    go_quiet (fail)
    revert nq
    intro n1
    go_wp2_with fail
    go_ret
    exact ⟨rfl, below_drewN HX3.out _⟩
  · by_cases h0 : OL = 0
    · have hz0 : ((OL : Int) == 0) = true := by simp [h0]
      subst h0
      go_wp2_with fail
      go_quiet (fail)
      revert nq
      intro n1
      go_wp2_with fail
      go_ret
      exact ⟨rfl, below_drewN HX3.out _⟩
    · have hz0 : ((OL : Int) == 0) = false := by
        cases hx : ((OL : Int) == 0)
        · rfl
        · rw [beq_iff_eq] at hx; omega
      have hz1 : (OL == 0) = false := by
        cases hx : (OL == 0)
        · rfl
        · rw [beq_iff_eq] at hx; omega
      have hwr : IntKind.i64.wrap ((OL : Int) - 1) = ((OL - 1 : Nat) : Int) := by rw [show ((OL : Int) - 1) = ((OL - 1 : Nat) : Int) by omega]; exact IntWalk.i64_in _ ⟨by omega, by omega⟩
      have htk : (o.take (OL - 1)).length = OL - 1 := by rw [List.length_take]; have := HOL.out; omega
      have hcc := implFits_any s l (o.take (OL - 1)) w3.drew _ _ _ av cv a' c' ai ci ao co (HT3.out.drewN 1) (HI3.out.drewN 1) ((HO3.out.upto (OL - 1)).drewN 1)
      rw [htk, ofB_take (OL - 1) HZ.out.symm] at hcc
      have HCC := Lib.hid hcc
      have hoc1 : OL - 1 ≤ co := by omega
      have hoc2 : ((OL - 1 : Nat) : Int) ≤ (co : Int) := by omega
      clear hcc htk
      go_wp2_with fail
      go_still_tail 15, (by kernel_rfl)
      go_wp2_with fail
      refine HCC.out.mono ?_
      rintro e w5 ⟨rfl, hb5⟩
      have HX5 := Lib.hid ((below_drewN HX3.out 1).trans (hb5.mono (show w.heap.size ≤ (w3.drewN 1).heap.size from HX3.out.size)))
      go_wp2_with fail
      go_ret
      exact ⟨rfl, HX5.out⟩
end Go.Proofs.Ytklmpagpkeffjaa

/- For every code the law FnOrderFits answers true: OrderFits answers as its model, and an order that fits does so without its last key. No condition. -/
namespace Go.Proofs.Ytklmpagpkeffjaa
open Go.ChangeShapes Go.WideShapes Go.ChangeAt Go.RowKit Go.Joins

set_option maxRecDepth 100000 in
theorem orderFits_lifted (os : Os) (started : os.Started) (H : Type) (enc : TypeId × Value → H) :
    ReturnsInHanded {} Try.checked os 7 .any (Rows.fnOrderFitsSpec.pre6 enc Try.prog Try.f7 Rows.fnOrderFitsRow.domain false) (Rows.fnOrderFitsSpec.post enc Try.prog Try.f7 false true false false) := by
  refine returnsInHanded_of_change (C := Try.checked) own started (by kernel_rfl) Try.func7
    (ChangeSpec.witness6 (enc := enc) (C := Try.checked) false ⟨#[], #[.slice none 0 0], []⟩ 8 (by kernel_rfl) (by kernel_rfl) (by kernel_rfl) (by kernel_rfl)) ?_
  intro W base args ds gs before hval0 hW _ _
  have hval : ∀ (j : Nat) t v, Try.f7.params[j]? = some t → args[j]? = some v → Value.okWide Try.prog W .any base t v := hval0
  have hW' := hW
  obtain ⟨p, q, hA0, hV, rfl, _, _⟩ := hW
  have hA : DataW.TrodAll enc Try.prog W 0 (fun _ => true) true Try.f7.params.toList args.toList ds p := hA0
  rw [Try.params7] at hA hval
  obtain ⟨v0, d0, rfl, rfl, h0⟩ := trodAll_one hA
  obtain ⟨rfl, rfl⟩ := trodVars_none hV
  obtain ⟨a, n, c, rfl, hcode⟩ := open_code Try.underlying22 Try.underlying5 cellsByte (okWide_slice Try.underlying22 (hval 0 22 v0 rfl rfl)) h0
  refine (walk_orderFits W a n c hcode).mono fun e W' ⟨he, hb⟩ => ?_
  subst he
  exact ⟨_, rfl, law_post laidOut rfl rfl Try.underlying4 (by intro t ht; rw [Try.params7] at ht; simp at ht; subst ht; exact ⟨by kernel_rfl, of_decide_eq_true (by kernel_rfl)⟩) rfl rfl rfl hW' hb⟩

theorem orderFits_holds : Rows.FnOrderFitsSaid :=
  OpenClaim.holds_of_wide 7 Try.f7 rfl rfl rfl rfl rfl rfl rfl ⟨rfl, rfl, rfl, rfl, rfl⟩ rfl rfl rfl rfl rfl (by kernel_rfl) Try.func7 (by kernel_rfl)
    (of_decide_eq_true (by kernel_rfl)) (by unfold Func.isWrapper; first | (rw [if_pos (by decide +kernel)]; kernel_rfl) | (rw [if_neg (by decide +kernel)]; exact ⟨rfl, rfl⟩))
    (fun os started H enc _ => orderFits_lifted os started H enc)
#print axioms orderFits_holds
end Go.Proofs.Ytklmpagpkeffjaa
