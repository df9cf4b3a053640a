/- several texts in one (made by bundle.py): Open, RowKit, OpenCode, Inputs, DrawBK, BuildI, BuildS, AllS, AllI, CircI, Bnds, Ring, FetI, SameI, UsesS, UsesI, Fixed, BrInts, LawDFix, LawDMay, LawDCirc, CircleOf -/
import Derived.Test.YtohogojphnlhpaaRows
import Derived.Test.YtohogojphnlhpaaTree
import Derived.ProofKit
import Derived.Lib.SmallJoins
import Derived.Deep.Slices
import Derived.Test.YtohogojphnlhpaaDraw4
import Derived.Test.YtohogojphnlhpaaShD
import Derived.Test.YtohogojphnlhpaaDrawV
import Derived.Test.YtohogojphnlhpaaSheetD
import Derived.Test.YtohogojphnlhpaaShG
import Derived.Test.YtohogojphnlhpaaKeyM
import Derived.Test.YtohogojphnlhpaaFromS
import Derived.Test.YtohogojphnlhpaaNote
import Derived.Test.YtohogojphnlhpaaOkI
import Derived.Test.YtohogojphnlhpaaVals
import Derived.Test.YtohogojphnlhpaaL2
import Derived.Test.YtohogojphnlhpaaMayU
import Derived.IntWalk
/- A task that came in as an argument: its reading opened to a tree -/
namespace Go.Proofs.Ytohogojphnlhpaa
open Go.ChangeShapes Go.WideShapes Go.ChangeAt Go.RowKit Go.Joins

theorem i64ok_of {n : Int} (h : (Lit.int .i64 n).wf = true) : i64ok n := by
  have := WalkArith.wf_i64 (n := n)
  unfold i64ok
  simp [Lit.wf] at h
  exact ⟨h.1, by omega⟩

theorem AtL.of_each {w : World} {S : Nat → Prop} {b o : Nat} : ∀ n, (∀ i, i < n → ∃ t, AtC w S t b (o + 3 * i)) → ∃ ps : List T, ps.length = n ∧ AtL w S ps b o
  | 0, _ => ⟨[], rfl, by simp [AtL]⟩
  | n + 1, h => by
    obtain ⟨ps, hl, hat⟩ := AtL.of_each n (fun i hi => h i (by omega))
    obtain ⟨t, ht⟩ := h n (by omega)
    exact ⟨ps ++ [t], by simp [hl], AtL.snoc hat (by rw [hl]; exact ht)⟩

section
variable {H : Type} {enc : TypeId × Value → H} {P : Program} {w : World} {base : Nat} {spare : Nat → Bool} {held : Bool} {tS tE tI : TypeId} {f0 f1 f2 : Field}

theorem open_tasks (hI : P.underlying tI = some (.int .i64)) (hcI : P.cellsOf tI = 1) (hS : P.underlying tS = some (.slice tE)) (hcS : P.cellsOf tS = 1) (hE : P.underlying tE = some (.struct #[f0, f1, f2])) (hC : P.cellsOf tE = 3)
    (h0 : f0.type = tI ∧ f0.offset = 0) (h1 : f1.type = tI ∧ f1.offset = 1) (h2 : f2.type = tS ∧ f2.offset = 2) :
    ∀ (fuel : Nat) (v : Value) (x : DataW H × List MemPlace), DataW.trod enc P w base spare held fuel tS [v] = some x → ∃ ps a c, v = .slice a (List.length ps) c ∧ AtS w (fun _ => True) ps a c := by
  intro fuel
  induction fuel using Nat.strongRecOn with
  | _ fuel ih =>
  intro v x h
  rcases DataW.trod_slice hS h with ⟨hv, _⟩ | ⟨a, len, cap, elems, rest, n, hf, hv, _, _, hl, hm, hlen, hel, _, _⟩
  · simp only [List.cons.injEq, and_true] at hv
    exact ⟨[], none, 0, by simpa using hv, by simp [AtS]⟩
  simp only [List.cons.injEq, and_true] at hv
  subst hv
  have hm' : cap ≤ 9223372036854775807 := hm
  by_cases hz : len = 0
  · subst hz
    exact ⟨[], some a, cap, rfl, by simp, hm', .inl rfl⟩
  have each : ∀ i, i < len → ∃ k m ps a' c', i64ok k ∧ i64ok m ∧ w.cell? (a.add (i * 3)) = some (.int .i64 k) ∧ w.cell? (a.add (i * 3 + 1)) = some (.int .i64 m) ∧ w.cell? (a.add (i * 3 + 2)) = some (.slice a' (List.length ps) c') ∧ AtS w (fun _ => True) ps a' c' := by
    intro i hi
    have he := hel i hi
    rw [hC] at he
    have hs : elems[i]? = some (elems[i]'(by omega)) := List.getElem?_eq_getElem (by omega)
    rw [hs, Option.bind_eq_some_iff] at he
    obtain ⟨cs, hcs, htr⟩ := he
    obtain ⟨_, hcl, hat⟩ := World.cells?_some hcs
    obtain ⟨c0, c1, c2, rfl⟩ : ∃ c0 c1 c2, cs = [c0, c1, c2] := by
      match cs, hcl with
      | [c0, c1, c2], _ => exact ⟨c0, c1, c2, rfl⟩
    obtain ⟨ys, n', hn', _, _, hyl, hfd⟩ := DataW.trod_struct hE htr
    have y0 := hfd 0 f0 rfl
    have y1 := hfd 1 f1 rfl
    have y2 := hfd 2 f2 rfl
    rw [h0.1, h0.2, hcI, List.getElem?_eq_getElem (by simp at hyl; omega)] at y0
    rw [h1.1, h1.2, hcI, List.getElem?_eq_getElem (by simp at hyl; omega)] at y1
    rw [h2.1, h2.2, hcS, List.getElem?_eq_getElem (by simp at hyl; omega)] at y2
    obtain ⟨k, e0, _, wk⟩ := DataW.trod_int hI y0
    obtain ⟨m, e1, _, wm⟩ := DataW.trod_int hI y1
    obtain ⟨ps, a', c', e2, hps⟩ := ih n' (by omega) c2 _ y2
    simp at e0 e1
    subst e0 e1 e2
    have g0 := hat 0 (by omega)
    have g1 := hat 1 (by omega)
    have g2 := hat 2 (by omega)
    rw [Go.Deep.add_add] at g0 g1 g2
    exact ⟨k, m, ps, a', c', i64ok_of wk, i64ok_of wm, g0, g1, g2, hps⟩
  have hsp : a.spot = none := by
    obtain ⟨_, _, _, _, _, _, _, g0, _⟩ := each 0 (by omega)
    obtain ⟨ab, ao, asp⟩ := a
    cases asp with
    | none => rfl
    | some y =>
      exfalso
      simp [Addr.add, World.cell?] at g0
      split at g0 <;> simp at g0
  obtain ⟨ab, ao, asp⟩ := a
  simp only at hsp
  subst hsp
  obtain ⟨ps, hpl, hat⟩ := AtL.of_each (w := w) (S := fun _ => True) (b := ab) (o := ao) len (fun i hi => by
    obtain ⟨k, m, ps, a', c', ok1, ok2, g0, g1, g2, hps⟩ := each i hi
    have ea : ∀ j, Addr.add ⟨ab, ao, none⟩ j = ⟨ab, ao + j, none⟩ := by intro j; unfold Addr.add; split <;> simp_all
    rw [ea] at g0 g1 g2
    refine ⟨.mk k m ps, AtC.mk ok1 ok2 ?_ ?_ ?_ hps⟩
    · rw [show ao + 3 * i = ao + i * 3 by omega]; exact g0
    · rw [show ao + 3 * i + 1 = ao + (i * 3 + 1) by omega]; exact g1
    · rw [show ao + 3 * i + 2 = ao + (i * 3 + 2) by omega]; exact g2)
  exact ⟨ps, _, cap, by rw [hpl], by rw [hpl]; exact hl, hm', .inr ⟨ab, ao, rfl, trivial, hat⟩⟩
end

end Go.Proofs.Ytohogojphnlhpaa

/- The road from a law's walk to its row: one lemma for every law of this seat. -/
namespace Go.Proofs.Ytohogojphnlhpaa
open Go.ChangeShapes Go.WideShapes Go.ChangeAt Go.RowKit

theorem own : ownKnob Try.prog.godebug = none := by kernel_rfl
theorem laidOut : laidOutB Try.prog = true := by kernel_rfl

theorem trodAll_stays {H : Type} {enc : TypeId × Value → H} {P : Program} (hl : laidOutB P = true) {W W' : World} {sp' : Nat → Bool} : ∀ (ts : List TypeId) (vs : List Value) (ds : List (DataW H)) (ps : List MemPlace),
    (∀ t ∈ ts, P.readableRec t = true ∧ t < P.types.size) → DataW.TrodAll enc P W 0 (fun _ => true) true ts vs ds ps → (∀ p ∈ ps, W.sameAt W' p) → (∀ p ∈ ps, sp' p.block = true) → DataW.TrodAll enc P W' 0 sp' true ts vs ds ps
  | [], [], [], _, _, h, _, _ => h
  | t :: ts, v :: vs, d :: ds, ps, ht, h, hs, hp => by
    obtain ⟨p, q, h1, h2, rfl⟩ := h
    exact ⟨p, q, WideElems.Trod_stays hl (ht t (by simp)).1 (ht t (by simp)).2 h1 (fun x hx => hs x (by simp [hx])) (fun x hx => hp x (by simp [hx])),
      trodAll_stays hl ts vs ds q (fun u hu => ht u (by simp [hu])) h2 (fun x hx => hs x (by simp [hx])) (fun x hx => hp x (by simp [hx])), rfl⟩
  | [], _ :: _, _, _, _, h, _, _ => by simp [DataW.TrodAll] at h
  | [], [], _ :: _, _, _, h, _, _ => by simp [DataW.TrodAll] at h
  | _ :: _, [], _, _, _, h, _, _ => by simp [DataW.TrodAll] at h
  | _ :: _, _ :: _, [], _, _, h, _, _ => by simp [DataW.TrodAll] at h

/-- BEHIND THE WALK: the law returned true and made new memory alone. -/
theorem law_post {H : Type} {enc : TypeId × Value → H} {P : Program} (hl : laidOutB P = true) {f : Func} {s : ChangeSpec} {W W' : World} {args : Array Value} {ds : List (DataW H)} {before : List MemPlace} {tb : TypeId}
    (hsv : s.vars = []) (hrt : f.resultTypes = #[tb]) (htb : P.underlying tb = some .bool) (hts : ∀ t ∈ f.params.toList, P.readableRec t = true ∧ t < P.types.size)
    (hres : (s.fn H (ds ++ [])).results = [.lit (.bool true)]) (hargs : (s.fn H (ds ++ [])).args = ds) (hvs : (s.fn H (ds ++ [])).vars = [])
    (hW : DataW.Whole enc P f.params.toList s.vars false W args.toList ds [] before) (hb : Below W.heap.size W W') :
    s.post enc P f false true false false W args (.bool true) W' := by
  have hlt : ∀ p ∈ before, p.block < W.heap.size := fun p hp => hW.lt p hp
  have hold : ∀ p ∈ before, (fun b => decide (b < W.heap.size)) p.block = true := fun p hp => by simpa using hlt p hp
  have hW0 := hW
  obtain ⟨p, q, hA, hV, rfl, _, _⟩ := hW
  rw [hsv] at hV
  obtain rfl : q = [] := by simpa [DataW.TrodVars] using hV
  have har : ∀ sp : Nat → Bool, (∀ x ∈ p ++ [], sp x.block = true) → DataW.TrodAll enc P W' 0 sp true f.params.toList args.toList ds p := fun sp hsp =>
    trodAll_stays hl _ _ _ _ hts hA (fun x hx => hb.same (hlt x (by simp [hx]))) (fun x hx => hsp x (by simp [hx]))
  have hrs : ∀ (b : Nat) (sp : Nat → Bool) (hd : Bool), DataW.TrodAll enc P W' b sp hd f.resultTypes.toList ((Value.bool true).resultList f.resultTypes.size) (s.fn H (ds ++ [])).results [] := by
    intro b sp hd
    rw [hres, hrt]
    exact trodAll_mk1 (shut_bool htb _)
  refine ⟨ds, [], _, [], p, [], hW0, hrs _ _ _, by rw [hargs]; exact har _ hold, by rw [hsv, hvs]; rfl, World.keptBut_mono (fun p hp => ⟨hp, ?_⟩) (hb.frame (· ∈ p ++ [])), fun h => by cases h⟩
  rw [List.mem_append] at hp
  exact Or.inr hp

end Go.Proofs.Ytohogojphnlhpaa

/- a code that came in, opened -/
namespace Go.Proofs.Ytohogojphnlhpaa
open Go.ChangeShapes Go.WideShapes Go.ChangeAt Go.RowKit Go.Joins

theorem cellsByte : Try.prog.cellsOf 5 = 1 := by kernel_rfl

theorem u8_of {v : Int} (h : (Lit.int .u8 v).wf = true) : 0 ≤ v ∧ v ≤ 255 := by
  have h1 : IntKind.u8.min = 0 := by decide
  have h2 : IntKind.u8.max = 255 := by decide
  simp [Lit.wf] at h
  omega

/-- A code that came in, opened. -/
theorem open_code {H : Type} {enc : TypeId × Value → H} {P : Program} {w : World} {spare : Nat → Bool} {held : Bool} {tS tE : TypeId} (hS : P.underlying tS = some (.slice tE)) (hE : P.underlying tE = some (.int .u8)) (hC : P.cellsOf tE = 1)
    {v : Value} {d : DataW H} {p : List MemPlace} (hv : ∃ a n c, v = .slice a n c) (h : DataW.Trod enc P w 0 spare held tS v d p) : ∃ a n c, v = .slice a n c ∧ CodeAt w a n c := by
  obtain ⟨a, n, c, rfl⟩ := hv
  obtain ⟨fuel, hf⟩ := h
  rcases open_ints hS hE hC hf with ⟨hcs, _⟩ | ⟨a', len', cap', zs, hcs, _, hl, hm, hz, _, hcell, hwz⟩
  · simp [Value.cells] at hcs
    obtain ⟨rfl, rfl, rfl⟩ := hcs
    exact ⟨none, 0, 0, rfl, by simp [CodeAt]⟩
  · simp [Value.cells] at hcs
    obtain ⟨rfl, rfl, rfl⟩ := hcs
    have hm' : c ≤ 9223372036854775807 := hm
    have hzl : n ≤ zs.length := by rw [hz]; split <;> omega
    by_cases h0 : n = 0
    · exact ⟨_, _, _, rfl, hl, hm', .inl h0⟩
    obtain ⟨b, o, rfl, hc⟩ := ints_at hcell (by omega)
    have hb : b < w.heap.size := cell_lt (by simpa using hc 0 (by omega))
    refine ⟨_, _, _, rfl, hl, hm', .inr ⟨b, o, rfl, hb, fun i hi => ?_⟩⟩
    have hw := u8_of (hwz (zs.getD i 0) (by rw [List.getD_eq_getElem?_getD, List.getElem?_eq_getElem (by omega)]; simp))
    exact ⟨zs.getD i 0, hw.1, hw.2, hc i (by omega)⟩

end Go.Proofs.Ytohogojphnlhpaa

/- l91Inputs -/
namespace Go.Proofs.Ytohogojphnlhpaa
open Go.RowKit

/-- Values for a sheet were drawn. -/
def InpD (g p : Nat) (w : World) (e : Ending) (w' : World) : Prop := ∃ (l : List Int) (v : Value) (q : Nat), e = .returned v ∧ NumRow w' w.heap.size v l ∧ l.length ≤ 9 ∧ (∀ x ∈ l, -1 ≤ x ∧ x ≤ 97) ∧ p ≤ q ∧ q ≤ p + 100 ∧ RdAt w' g q ∧ Only g w w'

set_option maxHeartbeats 3000000 in
theorem inputs_any (w : World) (g p : Nat) (a : Option Addr) (n c : Nat) (b' : Option Addr) (n' c' : Nat) (hr : RdAt w g p) (hp : p ≤ 990000) (hn8 : n ≤ 8) : Calls Try.prog 55 #[.pointer (some ⟨g, 0, none⟩), .agg #[.slice a n c, .slice b' n' c']] w (InpD g p w) := by
  obtain ⟨iN, ni, nz0, nz1, nz2⟩ := info_parts infoInt
  have HIN := Lib.hid (And.intro ni (And.intro nz0 (And.intro nz1 nz2)))
  have hml : maxLen = 9223372036854775807 := rfl
  have HML := Lib.hid hml
  have hgl := hr.lt
  have hgn : w.heap.size ≠ g := by omega
  obtain ⟨ts, hts⟩ : ∃ v, v = Value.slice b' n' c' := ⟨_, rfl⟩
  have HR0 := Lib.hid ((hr.alloc (.cells #[.slice a n c, .slice b' n' c'] 26)).alloc (.cells #[] 3))
  have hn0 := rowN_new (w.alloc (.cells #[.slice a n c, .slice b' n' c'] 26))
  simp only [World.size_alloc] at hn0
  have HN0 := Lib.hid hn0
  have HO0 := Lib.hid (((Only.refl g w).alloc (.cells #[.slice a n c, .slice b' n' c'] 26)).alloc (.cells #[] 3))
  have hk0 := (Blk.new w 26 #[.slice a n c, .slice b' n' c']).alloc (.cells #[] 3)
  have HK0 := Lib.hid hk0
  have HTS := Lib.hid hts
  clear ni nz0 nz1 nz2 hml hr hn0 hk0 hts
  go_enter Try.func55, Try.ntmps55
  go_wp2_with fail
  refine (pick_any _ g p 2 HR0.out (by omega) (by omega) (by omega)).mono ?_
  rintro e w1 ⟨r0, rfl, h0, h1, hrd, ho⟩
  have hs1 := ho.size
  simp only [World.size_alloc] at hs1
  have HN1 := Lib.hid (HN0.out.only ho (by omega))
  have HR1 := Lib.hid hrd
  have HO1 := Lib.hid (HO0.out.trans ho)
  have hk1 := HK0.out.only ho hgn
  rw [← HTS.out] at hk1
  have HK1 := Lib.hid hk1
  obtain ⟨small, hsm⟩ : ∃ b, b = (r0 == 0) := ⟨_, rfl⟩
  clear h0 h1 hrd ho hk1 HN0 HR0 HO0 HK0
  go_upto_region 3 with (fail)
  rw [← hsm]
  clear hsm
  go_wp2_with fail
  go_loopw [5, 7, 8] (fun v k _ wr => ∃ (l : List Int) (q : Nat), k = .int .i64 l.length ∧ l.length ≤ n ∧ NumRow wr (w.heap.size + 1) v l ∧ (∀ x ∈ l, 0 ≤ x ∧ x ≤ 97) ∧ RdAt wr g q ∧ (p ≤ q ∧ q ≤ p + 1 + 2 * l.length) ∧ Only g w wr ∧ Blk wr w.heap.size 26 #[.slice a n c, ts]) (fun _ k _ _ => n - (intOf k).toNat)
  case atStart => exact ⟨[], _, rfl, by simp, HN1.out, by simp, HR1.out, by simp, HO1.out, HK1.out⟩
  case round =>
    obtain ⟨l, q, rfl, hln, hnr, hb, hrd, hq, ho, hk⟩ := hrel
    obtain ⟨av, cv, rfl, _⟩ := hnr.at (fun y hy => by have := hb y hy; unfold i64ok; omega)
    have HN := Lib.hid hnr
    have HB := Lib.hid hb
    have HR := Lib.hid hrd
    have HO := Lib.hid ho
    have HK := Lib.hid hk
    have hws : w.heap.size < wr.heap.size := hk.lt
    have hl12 : l.length ≤ 8 := by omega
    obtain ⟨x0, x1, _, _⟩ := hk.two
    clear hnr hb hrd ho hk HN1 HR1 HO1 HK1
    by_cases hlt : l.length < n
    · go_wp2_with fail
      refine (pick_any _ g _ 97 HR.out (by omega) (by omega) (by omega)).mono ?_
      rintro e w4 ⟨r, rfl, h0, h1, hrd, ho⟩
      have hr97 := h1 (by omega)
      have hs4 := ho.size
      have HN4 := Lib.hid (HN.out.only ho (by omega))
      have HR4 := Lib.hid hrd
      have HO4 := Lib.hid (HO.out.trans ho)
      have HK4 := Lib.hid (HK.out.only ho hgn)
      have HWS := Lib.hid (show w.heap.size + 1 ≤ w4.heap.size by omega)
      clear h1 hrd ho HN HR HO HK x0 x1
      cases small
      · go_wp2_with (at_builtin; refine wpList_append_row _ rfl (.tmp 25) (.tmp 27) 30 rfl (w.heap.size + 1) 3 iN (.int .i64 0) 1 8 Try.underlying30 HIN.out.1 HIN.out.2.1 HIN.out.2.2.1 HIN.out.2.2.2 rfl (by decide) _ l.length (l.map (Value.int .i64)) rfl (World.ownsRow.alloc HN4.out _) ⟨w4.heap.size, 0, none⟩ 1 1 [.int .i64 r] rfl rfl ?ap1 ?ap2 (by decide) ?ap3 ?ap4 ?ap5 ?_)
        case ap1 => exact news1 _ _ _
        case ap2 => simp [Value.oneCell']
        case ap3 => rw [HML.out]; omega
        case ap4 => omega
        case ap5 => have := HWS.out; simp; omega
        intro v7 w7 hown hgr _
        have hge := own_ge HN4.out
        have hN7 : NumRow w7 (w.heap.size + 1) v7 (l ++ [r]) := by
          unfold NumRow
          rw [List.map_append, show (l ++ [(r : Int)]).length = l.length + 1 by simp]
          exact hown
        obtain ⟨a7, c7, rfl, _⟩ := hN7.at (fun y hy => by
          rcases List.mem_append.1 hy with hy | hy
          · have := HB.out y hy; unfold i64ok; omega
          · rw [List.mem_singleton.1 hy]; unfold i64ok; omega)
        have hR7 := (HR4.out.alloc (.cells #[.int .i64 r] 3)).grown hgr (fun k hk => by have := hge k hk; omega)
        have hO7 := only_grown (HO4.out.alloc (.cells #[.int .i64 r] 3)) hgr (fun k hk => by have := hge k hk; omega)

        have hK7 : Blk w7 w.heap.size 26 #[.slice a n c, ts] := (HK4.out.alloc (.cells #[.int .i64 r] 3)).fr' (grownBy_fr hgr) (fun hd => by have := hge _ hd; omega)
        have H7 := Lib.hid (And.intro hN7 (And.intro hR7 (And.intro hO7 hK7)))
        clear hown hgr hge hN7 hR7 hO7 hK7
        go_wp2_with fail
        go_roundw
        case rel =>
          refine ⟨l ++ [r], _, by simp only [List.length_append, List.length_singleton]; go_num, by simp; omega, by simpa using H7.out.1, ?_, H7.out.2.1, by simp only [List.length_append, List.length_singleton]; omega, H7.out.2.2.1, H7.out.2.2.2⟩
          intro y hy
          rcases List.mem_append.1 hy with hy | hy
          · exact HB.out y hy
          · rw [List.mem_singleton.1 hy]; omega
        case measure => simp [intOf]; omega
      · go_wp2_with fail
        refine (pick_any _ g _ 3 HR4.out (by omega) (by omega) (by omega)).mono ?_
        rintro e w5 ⟨r2, rfl, k0, k1, hrd, ho⟩
        have hr23 := k1 (by omega)
        have hs5 := ho.size
        have HN5 := Lib.hid (HN4.out.only ho (by omega))
        have HR5 := Lib.hid hrd
        have HO5 := Lib.hid (HO4.out.trans ho)
        have HK5 := Lib.hid (HK4.out.only ho hgn)
        clear HWS
        have HWS := Lib.hid (show w.heap.size + 1 ≤ w5.heap.size by omega)
        clear k1 hrd ho HN4 HR4 HO4 HK4
        go_wp2_with (at_builtin; refine wpList_append_row _ rfl (.tmp 25) (.tmp 27) 30 rfl (w.heap.size + 1) 3 iN (.int .i64 0) 1 8 Try.underlying30 HIN.out.1 HIN.out.2.1 HIN.out.2.2.1 HIN.out.2.2.2 rfl (by decide) _ l.length (l.map (Value.int .i64)) rfl (World.ownsRow.alloc HN5.out _) ⟨w5.heap.size, 0, none⟩ 1 1 [.int .i64 r2] rfl rfl ?aq1 ?aq2 (by decide) ?aq3 ?aq4 ?aq5 ?_)
        case aq1 => exact news1 _ _ _
        case aq2 => simp [Value.oneCell']
        case aq3 => rw [HML.out]; omega
        case aq4 => omega
        case aq5 => have := HWS.out; simp; omega
        intro v7 w7 hown hgr _
        have hge := own_ge HN5.out
        have hN7 : NumRow w7 (w.heap.size + 1) v7 (l ++ [r2]) := by
          unfold NumRow
          rw [List.map_append, show (l ++ [(r2 : Int)]).length = l.length + 1 by simp]
          exact hown
        obtain ⟨a7, c7, rfl, _⟩ := hN7.at (fun y hy => by
          rcases List.mem_append.1 hy with hy | hy
          · have := HB.out y hy; unfold i64ok; omega
          · rw [List.mem_singleton.1 hy]; unfold i64ok; omega)
        have hR7 := (HR5.out.alloc (.cells #[.int .i64 r2] 3)).grown hgr (fun k hk => by have := hge k hk; omega)
        have hO7 := only_grown (HO5.out.alloc (.cells #[.int .i64 r2] 3)) hgr (fun k hk => by have := hge k hk; omega)

        have hK7 : Blk w7 w.heap.size 26 #[.slice a n c, ts] := (HK5.out.alloc (.cells #[.int .i64 r2] 3)).fr' (grownBy_fr hgr) (fun hd => by have := hge _ hd; omega)
        have H7 := Lib.hid (And.intro hN7 (And.intro hR7 (And.intro hO7 hK7)))
        clear hown hgr hge hN7 hR7 hO7 hK7
        go_wp2_with fail
        go_roundw
        case rel =>
          refine ⟨l ++ [r2], _, by simp only [List.length_append, List.length_singleton]; go_num, by simp; omega, by simpa using H7.out.1, ?_, H7.out.2.1, by simp only [List.length_append, List.length_singleton]; omega, H7.out.2.2.1, H7.out.2.2.2⟩
          intro y hy
          rcases List.mem_append.1 hy with hy | hy
          · exact HB.out y hy
          · rw [List.mem_singleton.1 hy]; omega
        case measure => simp [intOf]; omega
    · have HLN := Lib.hid (show l.length = n by omega)
      go_wp2_with fail
      refine (pick_any _ g _ 25 HR.out (by omega) (by omega) (by omega)).mono ?_
      rintro e w4 ⟨r, rfl, h0, h1, hrd, ho⟩
      have hs4 := ho.size
      have HN4 := Lib.hid (HN.out.only ho (by omega))
      have HR4 := Lib.hid hrd
      have HO4 := Lib.hid (HO.out.trans ho)
      clear h1 hrd ho HN HR HO HK x0 x1
      by_cases hr0 : r = 0
      · subst hr0
        go_wp2_with fail
        refine (num_any _ g (q + 1) w4.heap.size 3 (-1) (97) (fun i => if i = 0 then 0 else if i = 1 then 97 else -1) (HR4.out.alloc _) (by omega) (by omega) (by omega) (by omega) ?_).mono ?_
        · intro i hi
          have hi' : i = 0 ∨ i = 1 ∨ i = 2 := by omega
          rcases hi' with rfl | rfl | rfl <;> (rw [World.cell?_alloc_new]; simp)
        rintro e w6 ⟨r6, p6, rfl, hv0, hv1, hp2, hp3, hrd, ho⟩
        have hs6 := ho.size
        simp only [World.size_alloc] at hs6
        have HN6 := Lib.hid (NumRow.only (World.ownsRow.alloc HN4.out _) ho (by omega))
        have HR6 := Lib.hid hrd
        have HO6 := Lib.hid ((HO4.out.alloc _).trans ho)
        have HWS := Lib.hid (show w.heap.size + 1 ≤ w6.heap.size by omega)
        clear hrd ho HN4 HR4 HO4
        go_wp2_with (at_builtin; refine wpList_append_row _ rfl (.tmp 32) (.tmp 36) 30 rfl (w.heap.size + 1) 3 iN (.int .i64 0) 1 8 Try.underlying30 HIN.out.1 HIN.out.2.1 HIN.out.2.2.1 HIN.out.2.2.2 rfl (by decide) _ l.length (l.map (Value.int .i64)) rfl (World.ownsRow.alloc HN6.out _) ⟨w6.heap.size, 0, none⟩ 1 1 [.int .i64 r6] rfl rfl ?ar1 ?ar2 (by decide) ?ar3 ?ar4 ?ar5 ?_)
        case ar1 => exact news1 _ _ _
        case ar2 => simp [Value.oneCell']
        case ar3 => rw [HML.out]; omega
        case ar4 => omega
        case ar5 => have := HWS.out; simp; omega
        intro v7 w7 hown hgr _
        have hge := own_ge HN6.out
        have hN7 : NumRow w7 (w.heap.size + 1) v7 (l ++ [r6]) := by
          unfold NumRow
          rw [List.map_append, show (l ++ [(r6 : Int)]).length = l.length + 1 by simp]
          exact hown
        obtain ⟨a7, c7, rfl, _⟩ := hN7.at (fun y hy => by
          rcases List.mem_append.1 hy with hy | hy
          · have := HB.out y hy; unfold i64ok; omega
          · rw [List.mem_singleton.1 hy]; unfold i64ok; omega)
        have hR7 := (HR6.out.alloc (.cells #[.int .i64 r6] 3)).grown hgr (fun k hk => by have := hge k hk; omega)
        have hO7 := only_grown (HO6.out.alloc (.cells #[.int .i64 r6] 3)) hgr (fun k hk => by have := hge k hk; omega)

        have H7 := Lib.hid (And.intro hN7 (And.intro hR7 hO7))
        clear hown hgr hge hN7 hR7 hO7
        go_wp2_with fail
        go_ret
        refine ⟨l ++ [r6], _, _, rfl, ownsRow_low H7.out.1 (by omega), by simp; omega, ?_, by omega, by omega, H7.out.2.1, H7.out.2.2⟩
        intro y hy
        rcases List.mem_append.1 hy with hy | hy
        · have := HB.out y hy; omega
        · rw [List.mem_singleton.1 hy]; omega
      · have hne : (r == 0) = false := by simpa using hr0
        go_wp2_with fail
        go_ret
        exact ⟨l, _, _, rfl, ownsRow_low HN4.out (by omega), by omega, fun y hy => by have := HB.out y hy; omega, by omega, by omega, HR4.out, HO4.out⟩
end Go.Proofs.Ytohogojphnlhpaa

/- DrawBuildKey and its like -/
namespace Go.Proofs.Ytohogojphnlhpaa
open Go.RowKit

/-- A sheet, values and a key were drawn off a code. -/
def ShKDr (w : World) (e : Ending) (w' : World) : Prop := ∃ (s : Sh) (a : Option Addr) (c : Nat) (a' : Option Addr) (c' : Nat) (l : List Int) (ai : Option Addr) (ci : Nat) (key : Int), e = .returned (.tuple #[.agg #[.slice a s.m.length c, .slice a' s.t.length c'], .slice ai l.length ci, .int .i64 key]) ∧
  ShAt w' (fun _ => True) s a c a' c' ∧ IntsAt w' (fun _ => True) l ai ci ∧ s.t.length = s.m.length ∧ s.m.length ≤ 8 ∧ nodesL s.t ≤ 120 ∧ l.length ≤ 9 ∧ Below w.heap.size w w'
/-- A sheet and values were drawn off a code. -/
def ShIDr (w : World) (e : Ending) (w' : World) : Prop := ∃ (s : Sh) (a : Option Addr) (c : Nat) (a' : Option Addr) (c' : Nat) (l : List Int) (ai : Option Addr) (ci : Nat), e = .returned (.tuple #[.agg #[.slice a s.m.length c, .slice a' s.t.length c'], .slice ai l.length ci]) ∧
  ShAt w' (fun _ => True) s a c a' c' ∧ IntsAt w' (fun _ => True) l ai ci ∧ s.t.length = s.m.length ∧ s.m.length ≤ 8 ∧ nodesL s.t ≤ 120 ∧ l.length ≤ 9 ∧ Below w.heap.size w w'
set_option maxHeartbeats 2000000 in
theorem drawBuildKey_any (w : World) (a : Option Addr) (n c : Nat) (h : CodeAt w a n c) : Calls Try.prog 16 #[.slice a n c] w (ShKDr w) := by
  have HC := Lib.hid (h.alloc (.cells #[.slice none 0 0, .slice none 0 0] 26))
  clear h
  go_enter Try.func16, Try.ntmps16
  go_wp2_with fail
  refine (open_any _ a n c HC.out).mono ?_
  rintro e w1 ⟨rfl, hrd, hb⟩
  have hsz1 := hb.size
  simp only [World.size_alloc] at hsz1 hrd hb
  have HK1 := Lib.hid ((Blk.new w 26 #[.slice none 0 0, .slice none 0 0]).below hb (by omega))
  have HE1 := Lib.hid (And.intro hrd (below_of_box hb))
  have hlt1 : w.heap.size + 1 < w1.heap.size := hrd.lt
  clear hrd hb HC
  go_wp2_with fail
  refine (sheetD_any _ (w.heap.size + 1) 0 ?_ (by omega)).mono ?_
  · exact HE1.out.1
  rintro e w2 ⟨s, v, a', c', q, rfl, hsh, htl, hml, hnl, _, hq2, hrd, ho⟩
  obtain ⟨av, cv, rfl, _⟩ := ElRow.at hsh.row
  have hsz2 := ho.size
  have HK2 := Lib.hid ((HK1.out.only ho (by omega)).alloc (.cells #[.slice av s.m.length cv, .slice a' s.t.length c'] 26))
  have HT2 := Lib.hid (Blk.new w2 26 #[.slice av s.m.length cv, .slice a' s.t.length c'])
  have hB2 : Below w.heap.size w w2 := HE1.out.2.trans ⟨ho.os, ho.tape, ho.output, ho.size, fun k hk => ho.block k (by omega) (by intro e; injection e; omega)⟩
  have HX2 := Lib.hid (hB2.alloc (by omega) (.cells #[.slice av s.m.length cv, .slice a' s.t.length c'] 26))
  have HS2 := Lib.hid (hsh.alloc (.cells #[.slice av s.m.length cv, .slice a' s.t.length c'] 26))
  have HR2 := Lib.hid (hrd.alloc (.cells #[.slice av s.m.length cv, .slice a' s.t.length c'] 26))
  have HTL := Lib.hid htl
  clear hrd ho hB2 HK1 HE1 hsh htl
  go_wp2_with fail
  refine (inputs_any _ (w.heap.size + 1) q av s.m.length cv a' s.t.length c' HR2.out (by omega) hml).mono ?_
  rintro e w3 ⟨l, v, q3, rfl, hn, hl, hlb, _, _, hrd, ho⟩
  have hsz3 := ho.size
  simp only [World.size_alloc] at hsz3 hn
  obtain ⟨ai, ci, rfl, _⟩ := NumRow.at (show NumRow w3 _ v l from hn) (by intro x hx; have := hlb x hx; unfold i64ok; omega)
  have HK3 := Lib.hid (HK2.out.only ho (by omega))
  have HT3 := Lib.hid (HT2.out.only ho (by omega))
  have HX3 := Lib.hid (show Below w.heap.size w w3 from HX2.out.trans ⟨ho.os, ho.tape, ho.output, ho.size, fun k hk => ho.block k (by simp; omega) (by intro e; injection e; omega)⟩)
  have HS3 := Lib.hid (HS2.out.only ho (by omega))
  have HN3 := Lib.hid hn
  have HR3 := Lib.hid hrd
  have HLB := Lib.hid hlb
  clear hn hlb hrd ho HK2 HT2 HX2 HS2 HR2
  go_wp2_with fail
  refine (pick_any _ (w.heap.size + 1) q3 11 HR3.out (by omega) (by omega) (by omega)).mono ?_
  rintro e w4 ⟨r, rfl, h0, h1, hrd, ho⟩
  have hr11 := h1 (by omega)
  have hsz4 := ho.size
  have HK4 := Lib.hid (HK3.out.only ho (by omega))
  have HT4 := Lib.hid (HT3.out.only ho (by omega))
  have HX4 := Lib.hid (show Below w.heap.size w w4 from HX3.out.trans ⟨ho.os, ho.tape, ho.output, ho.size, fun k hk => ho.block k (by omega) (by intro e; injection e; omega)⟩)
  have HS4 := Lib.hid (HS3.out.only ho (by omega))
  have HN4 := Lib.hid (NumRow.only HN3.out ho (by omega))
  clear h1 hrd ho HK3 HT3 HX3 HS3 HN3 HR3
  obtain ⟨x0, x1, f0, f1⟩ := HK4.out.two
  obtain ⟨y0, y1, _, _⟩ := HT4.out.two
  have hz : w.heap.size < w4.heap.size := by omega
  go_wp2_with fail
  have hb5 := (HK4.out.set_ 0 (.slice av s.m.length cv)).set_ 1 (.slice a' s.t.length c')
  obtain ⟨z0, z1, _, _⟩ := (show Blk _ w.heap.size 26 #[.slice av s.m.length cv, .slice a' s.t.length c'] from hb5).two
  refine bodyPost_ret (v := .tuple #[.agg #[.slice av s.m.length cv, .slice a' s.t.length c'], .slice ai l.length ci, .int .i64 (r - 1)]) (by simp only [results, Try.results16]; simp [go_sem, z0, z1]) rfl ?_
  have hne : (Value.slice ai l.length ci).ownBlock ≠ some w.heap.size := fun e => by have := own_ge HN4.out _ e; omega
  have h1 := (HS4.out.set_ ⟨w.heap.size, 0, none⟩ (.slice av s.m.length cv) (.inl (by simp; omega))).set_ ⟨w.heap.size, 1, none⟩ (.slice a' s.t.length c') (.inl (by simp; omega))
  obtain ⟨a6, c6, e6, h2⟩ := h1.at
  simp only [Value.slice.injEq, true_and] at e6
  obtain ⟨rfl, rfl⟩ := e6
  have h3 := ownsRow_setCell_other (ownsRow_setCell_other HN4.out (a := ⟨w.heap.size, 0, none⟩) hne (.slice av s.m.length cv)) (a := ⟨w.heap.size, 1, none⟩) hne (.slice a' s.t.length c')
  obtain ⟨a7, c7, e7, h4⟩ := NumRow.at (show NumRow _ _ _ l from h3) (by intro x hx; have := HLB.out x hx; unfold i64ok; omega)
  simp only [Value.slice.injEq, true_and] at e7
  obtain ⟨rfl, rfl⟩ := e7
  exact ⟨s, av, cv, a', c', l, ai, ci, _, rfl, h2.keep (fun _ _ => trivial) (fun _ _ _ => rfl), h4.keep (fun _ _ => trivial) (fun _ _ _ => rfl), HTL.out, hml, hnl, hl, (HX4.out.setCell (Nat.le_refl _) _).setCell (Nat.le_refl _) _⟩
set_option maxHeartbeats 2000000 in
theorem drawCircleOf_any (w : World) (a : Option Addr) (n c : Nat) (h : CodeAt w a n c) : Calls Try.prog 24 #[.slice a n c] w (ShKDr w) := by
  have HC := Lib.hid (h.alloc (.cells #[.slice none 0 0, .slice none 0 0] 26))
  clear h
  go_enter Try.func24, Try.ntmps24
  go_wp2_with fail
  refine (open_any _ a n c HC.out).mono ?_
  rintro e w1 ⟨rfl, hrd, hb⟩
  have hsz1 := hb.size
  simp only [World.size_alloc] at hsz1 hrd hb
  have HK1 := Lib.hid ((Blk.new w 26 #[.slice none 0 0, .slice none 0 0]).below hb (by omega))
  have HE1 := Lib.hid (And.intro hrd (below_of_box hb))
  have hlt1 : w.heap.size + 1 < w1.heap.size := hrd.lt
  clear hrd hb HC
  go_wp2_with fail
  refine (sheetD_any _ (w.heap.size + 1) 0 ?_ (by omega)).mono ?_
  · exact HE1.out.1
  rintro e w2 ⟨s, v, a', c', q, rfl, hsh, htl, hml, hnl, _, hq2, hrd, ho⟩
  obtain ⟨av, cv, rfl, _⟩ := ElRow.at hsh.row
  have hsz2 := ho.size
  have HK2 := Lib.hid ((HK1.out.only ho (by omega)).alloc (.cells #[.slice av s.m.length cv, .slice a' s.t.length c'] 26))
  have HT2 := Lib.hid (Blk.new w2 26 #[.slice av s.m.length cv, .slice a' s.t.length c'])
  have hB2 : Below w.heap.size w w2 := HE1.out.2.trans ⟨ho.os, ho.tape, ho.output, ho.size, fun k hk => ho.block k (by omega) (by intro e; injection e; omega)⟩
  have HX2 := Lib.hid (hB2.alloc (by omega) (.cells #[.slice av s.m.length cv, .slice a' s.t.length c'] 26))
  have HS2 := Lib.hid (hsh.alloc (.cells #[.slice av s.m.length cv, .slice a' s.t.length c'] 26))
  have HR2 := Lib.hid (hrd.alloc (.cells #[.slice av s.m.length cv, .slice a' s.t.length c'] 26))
  have HTL := Lib.hid htl
  clear hrd ho hB2 HK1 HE1 hsh htl
  go_wp2_with fail
  refine (inputs_any _ (w.heap.size + 1) q av s.m.length cv a' s.t.length c' HR2.out (by omega) hml).mono ?_
  rintro e w3 ⟨l, v, q3, rfl, hn, hl, hlb, _, _, hrd, ho⟩
  have hsz3 := ho.size
  simp only [World.size_alloc] at hsz3 hn
  obtain ⟨ai, ci, rfl, _⟩ := NumRow.at (show NumRow w3 _ v l from hn) (by intro x hx; have := hlb x hx; unfold i64ok; omega)
  have HK3 := Lib.hid (HK2.out.only ho (by omega))
  have HT3 := Lib.hid (HT2.out.only ho (by omega))
  have HX3 := Lib.hid (show Below w.heap.size w w3 from HX2.out.trans ⟨ho.os, ho.tape, ho.output, ho.size, fun k hk => ho.block k (by simp; omega) (by intro e; injection e; omega)⟩)
  have HS3 := Lib.hid (HS2.out.only ho (by omega))
  have HN3 := Lib.hid hn
  have HR3 := Lib.hid hrd
  have HLB := Lib.hid hlb
  clear hn hlb hrd ho HK2 HT2 HX2 HS2 HR2
  go_wp2_with fail
  refine (pick_any _ (w.heap.size + 1) q3 11 HR3.out (by omega) (by omega) (by omega)).mono ?_
  rintro e w4 ⟨r, rfl, h0, h1, hrd, ho⟩
  have hr11 := h1 (by omega)
  have hsz4 := ho.size
  have HK4 := Lib.hid (HK3.out.only ho (by omega))
  have HT4 := Lib.hid (HT3.out.only ho (by omega))
  have HX4 := Lib.hid (show Below w.heap.size w w4 from HX3.out.trans ⟨ho.os, ho.tape, ho.output, ho.size, fun k hk => ho.block k (by omega) (by intro e; injection e; omega)⟩)
  have HS4 := Lib.hid (HS3.out.only ho (by omega))
  have HN4 := Lib.hid (NumRow.only HN3.out ho (by omega))
  clear h1 hrd ho HK3 HT3 HX3 HS3 HN3 HR3
  obtain ⟨x0, x1, f0, f1⟩ := HK4.out.two
  obtain ⟨y0, y1, _, _⟩ := HT4.out.two
  have hz : w.heap.size < w4.heap.size := by omega
  go_wp2_with fail
  have hb5 := (HK4.out.set_ 0 (.slice av s.m.length cv)).set_ 1 (.slice a' s.t.length c')
  obtain ⟨z0, z1, _, _⟩ := (show Blk _ w.heap.size 26 #[.slice av s.m.length cv, .slice a' s.t.length c'] from hb5).two
  refine bodyPost_ret (v := .tuple #[.agg #[.slice av s.m.length cv, .slice a' s.t.length c'], .slice ai l.length ci, .int .i64 (r - 1)]) (by simp only [results, Try.results24]; simp [go_sem, z0, z1]) rfl ?_
  have hne : (Value.slice ai l.length ci).ownBlock ≠ some w.heap.size := fun e => by have := own_ge HN4.out _ e; omega
  have h1 := (HS4.out.set_ ⟨w.heap.size, 0, none⟩ (.slice av s.m.length cv) (.inl (by simp; omega))).set_ ⟨w.heap.size, 1, none⟩ (.slice a' s.t.length c') (.inl (by simp; omega))
  obtain ⟨a6, c6, e6, h2⟩ := h1.at
  simp only [Value.slice.injEq, true_and] at e6
  obtain ⟨rfl, rfl⟩ := e6
  have h3 := ownsRow_setCell_other (ownsRow_setCell_other HN4.out (a := ⟨w.heap.size, 0, none⟩) hne (.slice av s.m.length cv)) (a := ⟨w.heap.size, 1, none⟩) hne (.slice a' s.t.length c')
  obtain ⟨a7, c7, e7, h4⟩ := NumRow.at (show NumRow _ _ _ l from h3) (by intro x hx; have := HLB.out x hx; unfold i64ok; omega)
  simp only [Value.slice.injEq, true_and] at e7
  obtain ⟨rfl, rfl⟩ := e7
  exact ⟨s, av, cv, a', c', l, ai, ci, _, rfl, h2.keep (fun _ _ => trivial) (fun _ _ _ => rfl), h4.keep (fun _ _ => trivial) (fun _ _ _ => rfl), HTL.out, hml, hnl, hl, (HX4.out.setCell (Nat.le_refl _) _).setCell (Nat.le_refl _) _⟩
set_option maxHeartbeats 2000000 in
theorem drawBuildAll_any (w : World) (a : Option Addr) (n c : Nat) (h : CodeAt w a n c) : Calls Try.prog 21 #[.slice a n c] w (ShIDr w) := by
  have HC := Lib.hid (h.alloc (.cells #[.slice none 0 0, .slice none 0 0] 26))
  clear h
  go_enter Try.func21, Try.ntmps21
  go_wp2_with fail
  refine (open_any _ a n c HC.out).mono ?_
  rintro e w1 ⟨rfl, hrd, hb⟩
  have hsz1 := hb.size
  simp only [World.size_alloc] at hsz1 hrd hb
  have HK1 := Lib.hid ((Blk.new w 26 #[.slice none 0 0, .slice none 0 0]).below hb (by omega))
  have HE1 := Lib.hid (And.intro hrd (below_of_box hb))
  have hlt1 : w.heap.size + 1 < w1.heap.size := hrd.lt
  clear hrd hb HC
  go_wp2_with fail
  refine (sheetD_any _ (w.heap.size + 1) 0 ?_ (by omega)).mono ?_
  · exact HE1.out.1
  rintro e w2 ⟨s, v, a', c', q, rfl, hsh, htl, hml, hnl, _, hq2, hrd, ho⟩
  obtain ⟨av, cv, rfl, _⟩ := ElRow.at hsh.row
  have hsz2 := ho.size
  have HK2 := Lib.hid ((HK1.out.only ho (by omega)).alloc (.cells #[.slice av s.m.length cv, .slice a' s.t.length c'] 26))
  have HT2 := Lib.hid (Blk.new w2 26 #[.slice av s.m.length cv, .slice a' s.t.length c'])
  have hB2 : Below w.heap.size w w2 := HE1.out.2.trans ⟨ho.os, ho.tape, ho.output, ho.size, fun k hk => ho.block k (by omega) (by intro e; injection e; omega)⟩
  have HX2 := Lib.hid (hB2.alloc (by omega) (.cells #[.slice av s.m.length cv, .slice a' s.t.length c'] 26))
  have HS2 := Lib.hid (hsh.alloc (.cells #[.slice av s.m.length cv, .slice a' s.t.length c'] 26))
  have HR2 := Lib.hid (hrd.alloc (.cells #[.slice av s.m.length cv, .slice a' s.t.length c'] 26))
  have HTL := Lib.hid htl
  clear hrd ho hB2 HK1 HE1 hsh htl
  go_wp2_with fail
  refine (inputs_any _ (w.heap.size + 1) q av s.m.length cv a' s.t.length c' HR2.out (by omega) hml).mono ?_
  rintro e w3 ⟨l, v, q3, rfl, hn, hl, hlb, _, _, hrd, ho⟩
  have hsz3 := ho.size
  simp only [World.size_alloc] at hsz3 hn
  obtain ⟨ai, ci, rfl, _⟩ := NumRow.at (show NumRow w3 _ v l from hn) (by intro x hx; have := hlb x hx; unfold i64ok; omega)
  have HK3 := Lib.hid (HK2.out.only ho (by omega))
  have HT3 := Lib.hid (HT2.out.only ho (by omega))
  have HX3 := Lib.hid (show Below w.heap.size w w3 from HX2.out.trans ⟨ho.os, ho.tape, ho.output, ho.size, fun k hk => ho.block k (by simp; omega) (by intro e; injection e; omega)⟩)
  have HS3 := Lib.hid (HS2.out.only ho (by omega))
  have HN3 := Lib.hid hn
  have HR3 := Lib.hid hrd
  have HLB := Lib.hid hlb
  clear hn hlb hrd ho HK2 HT2 HX2 HS2 HR2
  obtain ⟨x0, x1, f0, f1⟩ := HK3.out.two
  obtain ⟨y0, y1, _, _⟩ := HT3.out.two
  have hz : w.heap.size < w3.heap.size := by omega
  go_wp2_with fail
  have hb5 := (HK3.out.set_ 0 (.slice av s.m.length cv)).set_ 1 (.slice a' s.t.length c')
  obtain ⟨z0, z1, _, _⟩ := (show Blk _ w.heap.size 26 #[.slice av s.m.length cv, .slice a' s.t.length c'] from hb5).two
  refine bodyPost_ret (v := .tuple #[.agg #[.slice av s.m.length cv, .slice a' s.t.length c'], .slice ai l.length ci]) (by simp only [results, Try.results21]; simp [go_sem, z0, z1]) rfl ?_
  have hne : (Value.slice ai l.length ci).ownBlock ≠ some w.heap.size := fun e => by have := own_ge HN3.out _ e; omega
  have h1 := (HS3.out.set_ ⟨w.heap.size, 0, none⟩ (.slice av s.m.length cv) (.inl (by simp; omega))).set_ ⟨w.heap.size, 1, none⟩ (.slice a' s.t.length c') (.inl (by simp; omega))
  obtain ⟨a6, c6, e6, h2⟩ := h1.at
  simp only [Value.slice.injEq, true_and] at e6
  obtain ⟨rfl, rfl⟩ := e6
  have h3 := ownsRow_setCell_other (ownsRow_setCell_other HN3.out (a := ⟨w.heap.size, 0, none⟩) hne (.slice av s.m.length cv)) (a := ⟨w.heap.size, 1, none⟩) hne (.slice a' s.t.length c')
  obtain ⟨a7, c7, e7, h4⟩ := NumRow.at (show NumRow _ _ _ l from h3) (by intro x hx; have := HLB.out x hx; unfold i64ok; omega)
  simp only [Value.slice.injEq, true_and] at e7
  obtain ⟨rfl, rfl⟩ := e7
  exact ⟨s, av, cv, a', c', l, ai, ci, rfl, h2.keep (fun _ _ => trivial) (fun _ _ _ => rfl), h4.keep (fun _ _ => trivial) (fun _ _ _ => rfl), HTL.out, hml, hnl, hl, (HX3.out.setCell (Nat.le_refl _) _).setCell (Nat.le_refl _) _⟩
end Go.Proofs.Ytohogojphnlhpaa

/- impl.BuildKey -/
namespace Go.Proofs.Ytohogojphnlhpaa
open Go.RowKit

noncomputable def bkOk (s : Sh) (l : List Int) (key : Int) : Bool := inOk s l && (decide (0 ≤ key ∧ key < s.m.length) && okS s l key)
noncomputable def bkV (s : Sh) (l : List Int) (key : Int) : Int := if bkOk s l key = true then vsS s l key else 0
def BkPost (s : Sh) (l : List Int) (key : Int) (w : World) (e : Ending) (w' : World) : Prop := e = .returned (.tuple #[.int .i64 (bkV s l key), .bool (bkOk s l key)]) ∧ Below w.heap.size w w'
theorem BkPost.no {s : Sh} {l : List Int} {key : Int} {w w' : World} (h : bkOk s l key = false) (hb : Below w.heap.size w w') : BkPost s l key w (.returned (.tuple #[.int .i64 0, .bool false])) w' := by
  unfold BkPost bkV
  rw [h]; exact ⟨rfl, hb⟩
theorem BkPost.yes {s : Sh} {l : List Int} {key : Int} {w w' : World} {v : Int} (h : bkOk s l key = true) (hv : v = vsS s l key) (hb : Below w.heap.size w w') : BkPost s l key w (.returned (.tuple #[.int .i64 v, .bool true])) w' := by
  unfold BkPost bkV
  rw [h, hv]; exact ⟨rfl, hb⟩

theorem PRow.cell {w : World} {b g n k i : Nat} (h : PRow w b g n k) (hi : i < k) : w.cell? ⟨b, i, none⟩ = some (.pointer (some ⟨g + i, 0, none⟩)) := by
  obtain ⟨cs, h1, _, h3⟩ := h
  rw [h1.cell i, h3 i hi]; simp [ndP]
theorem PRow.fr {D : Nat → Prop} {w w' : World} {b g n k : Nat} (h : PRow w b g n k) (hf : Fr D w w') (hD : ¬ D b) : PRow w' b g n k := by
  obtain ⟨cs, h1, h2, h3⟩ := h
  exact ⟨cs, h1.fr hf hD, h2, h3⟩
theorem below_nd {B : Nat} {w w1 w2 : World} {g n : Nat} (h : Below B w w1) (hf : Fr (ndB g n) w1 w2) (hg : B ≤ g) (hB : B ≤ w1.heap.size) : Below B w w2 :=
  h.trans ⟨hf.1, hf.2.1, hf.2.2.1, hf.2.2.2.1, fun b hb => hf.2.2.2.2 b (by omega) (fun h => by have := h.1; omega)⟩

theorem nds_start {w : World} {S : Nat → Prop} {s : Sh} {l : List Int} {g n : Nat} {m : Nat → Nat → Value} (hok : s.ok = true) (h : Nds w S s g n m (vf l) (fun k => !s.mdI k)) :
    Nds w S s g n m (fun k => if (!s.mdI k) = true then vsS s l k else vf l k) (fun k => !s.mdI k) :=
  h.congr (fun _ _ _ _ => rfl) (fun k _ => by
    show vf l (k : Int) = if (!s.mdI (k : Int)) = true then vsS s l k else vf l k
    cases hm : s.mdI (k : Int)
    · rw [vsS_free hok hm]; simp
    · simp) (fun _ _ => rfl)

set_option maxRecDepth 100000 in
set_option maxHeartbeats 2000000 in
theorem implBuildKey_any (s : Sh) (l : List Int) (key : Int) (w : World) (S S' : Nat → Prop) (a : Option Addr) (c : Nat) (a' : Option Addr) (c' : Nat) (ai : Option Addr) (ci : Nat) (h : ShAt w S s a c a' c') (hl : IntsAt w S' l ai ci) :
    Calls Try.prog 17 #[.agg #[.slice a s.m.length c, .slice a' s.t.length c'], .slice ai l.length ci, .int .i64 key] w (BkPost s l key w) := by
  have K0 := Lib.hid (Ks.start (ty := 26) h)
  have L0 := Lib.hid (hl.alloc (.cells #[.slice a s.m.length c, .slice a' s.t.length c'] 26))
  clear h hl
  obtain ⟨x0, x1⟩ := K0.out.box
  cases hin : inOk s l
  · have HNO := Lib.hid (show bkOk s l key = false by unfold bkOk; rw [hin]; rfl)
    have HI := Lib.hid hin
    clear hin
    go_enter Try.func17, Try.ntmps17
    go_wp2_with fail
    refine (implInputs_any s l _ S S' a c a' c' ai ci K0.out.2 L0.out).mono ?_
    rintro e w1 ⟨rfl, hb⟩
    rw [HI.out]
    have K1 := Lib.hid (K0.out.step hb)
    clear hb x0 x1
    go_wp2_with fail
    go_ret2
    exact BkPost.no HNO.out K1.out.done
  cases hk : decide (0 ≤ key ∧ key < s.m.length)
  · have HNO := Lib.hid (show bkOk s l key = false by unfold bkOk; rw [hk]; simp)
    have HI := Lib.hid hin
    have HK := Lib.hid hk
    clear hin hk
    go_enter Try.func17, Try.ntmps17
    go_wp2_with fail
    refine (implInputs_any s l _ S S' a c a' c' ai ci K0.out.2 L0.out).mono ?_
    rintro e w1 ⟨rfl, hb⟩
    rw [HI.out]
    have K1 := Lib.hid (K0.out.step hb)
    clear hb x0 x1
    obtain ⟨x0, x1⟩ := K1.out.box
    go_wp2_with fail
    refine (hasKey_any s _ S a c a' c' key K1.out.2).mono ?_
    rintro e w2 ⟨rfl, hb⟩
    rw [HK.out]
    have K2 := Lib.hid (K1.out.step hb)
    clear hb x0 x1
    go_wp2_with fail
    go_ret2
    exact BkPost.no HNO.out K2.out.done
  · have hk2 : 0 ≤ key ∧ key < s.m.length := by simpa using hk
    obtain ⟨kn, rfl⟩ : ∃ kn : Nat, key = kn := ⟨key.toNat, by omega⟩
    have hkn : kn < s.m.length := by omega
    have hbk : bkOk s l kn = okS s l kn := by unfold bkOk; rw [hin, hk]; rfl
    have HBK := Lib.hid hbk
    have HI := Lib.hid hin
    have HK := Lib.hid hk
    have h10 : s.m.length ≤ 10 := (Sh.ok_iff.1 (inOk_of hin).1).1
    clear hin hk hbk hk2
    go_enter Try.func17, Try.ntmps17
    go_wp2_with fail
    refine (implInputs_any s l _ S S' a c a' c' ai ci K0.out.2 L0.out).mono ?_
    rintro e w1 ⟨rfl, hb⟩
    rw [HI.out]
    have K1 := Lib.hid (K0.out.step hb)
    have L1 := Lib.hid (L0.out.below hb)
    clear hb x0 x1
    obtain ⟨x0, x1⟩ := K1.out.box
    go_wp2_with fail
    refine (hasKey_any s _ S a c a' c' kn K1.out.2).mono ?_
    rintro e w2 ⟨rfl, hb⟩
    rw [HK.out]
    have K2 := Lib.hid (K1.out.step hb)
    have L2 := Lib.hid (L1.out.below hb)
    clear hb x0 x1
    obtain ⟨x0, x1⟩ := K2.out.box
    go_wp2_with fail
    refine (nodes_any' s l _ S S' a c a' c' ai ci K2.out.2 L2.out HI.out).mono ?_
    rintro e w3 ⟨g, b, rfl, hb1, hg1, hnb, hp, hnd, hb⟩
    have K3 := Lib.hid (K2.out.step hb)
    have HND := Lib.hid hnd
    have HG := Lib.hid (And.intro hg1 hb.size)
    have hcell := hp.cell hkn
    have hbl : b < w3.heap.size := cell_lt hcell
    clear hb hp hnd x0 x1 hg1
    go_wp2_with fail
    have hok := (inOk_of HI.out).1
    have hS : ∀ b, (fun b => S b ∧ b < w2.heap.size) b → b < g := fun b hb => by have := HG.out.1; have := hb.2; omega
    refine (finish_any (gr_S hok l) (try_step HI.out hS) h10 hS w3 (fun k => !s.mdI k) kn hkn (fun _ h => h) (fun k h => (gr_S hok l).d0ok k h) (nds_start hok HND.out)).mono ?_
    rintro e w4 ⟨d, L, a4, c4, rfl, hat, hnd, _, hdo, hfr, _, ⟨rfl, hdf⟩ | ⟨hne, hnok, hLc⟩⟩
    · have K4 := Lib.hid (below_nd K3.out.done hfr (by have := HG.out.1; have := K2.out.size; omega) (by have := K3.out.size; omega))
      obtain ⟨_, _, hgk, _, _, _, _, _, e14, _, _, _⟩ := hnd.node hkn
      have e : (fun d k => if d k = true then vsS s l k else vf l k) d (kn : Int) = vsS s l kn := by simp only [hdf, if_true]
      rw [e] at e14
      obtain ⟨v, hv⟩ : ∃ v, v = vsS s l kn := ⟨_, rfl⟩
      rw [← hv] at e14
      have HV := Lib.hid hv
      have HY := Lib.hid (show bkOk s l kn = true by rw [HBK.out]; exact hdo _ hdf)
      clear hnd hdo hfr hdf e hok hS hv hat
      go_wp2_with fail
      go_ret2
      exact BkPost.yes HY.out HV.out K4.out
    · have K4 := Lib.hid (below_nd K3.out.done hfr (by have := HG.out.1; have := K2.out.size; omega) (by have := K3.out.size; omega))
      have HNO := Lib.hid (show bkOk s l kn = false by rw [HBK.out]; exact hnok)
      have hlp : decide ((0 : Int) < (L.length : Int)) = true := decide_eq_true (by have := List.length_pos_iff.2 hne; omega)
      have hlp2 : 0 < L.length := List.length_pos_iff.2 hne
      have hlp3 : decide (0 < L.length) = true := decide_eq_true hlp2
      have hLm : L.length ≤ 9223372036854775807 := by have := hat.1; have := hat.2.1; omega
      clear hnd hdo hfr hnok hok hS hne hat hLc
      go_wp2_with fail
      go_ret2
      exact BkPost.no HNO.out K4.out
end Go.Proofs.Ytohogojphnlhpaa

/- spec.BuildKey, spec.CircleOf -/
namespace Go.Proofs.Ytohogojphnlhpaa
open Go.RowKit

section
variable {S S' : Nat → Prop} {s : Sh} {l : List Int} {q : Nat} {a : Option Addr} {c : Nat} {a' : Option Addr} {c' : Nat} {ai : Option Addr} {ci : Nat}
theorem key_all : ∀ r, KeyT S S' s l q a c a' c' ai ci r
  | 0 => fun uv cv U k w hr hp => by
    have := hp.undL
    omega
  | r + 1 => fun uv cv U k w hr hp => by
    by_cases hk : (s.m.length : Int) ≤ k
    · exact key_far hp hk
    cases hm : s.mdI k
    · exact key_in hp (by omega) hm
    by_cases hU : k ∈ U
    · exact key_circ hp hm hU
    obtain ⟨kn, rfl⟩ : ∃ kn : Nat, k = kn := ⟨k.toNat, by have := hp.k0; omega⟩
    exact key_main (key_all r) (by omega) hp hm hU
end

/-- What building a key from nothing leaves, the builder in block q. -/
theorem key_top {s : Sh} {l : List Int} {w : World} {S S' : Nat → Prop} {a : Option Addr} {c : Nat} {a' : Option Addr} {c' : Nat} {ai : Option Addr} {ci : Nat} (q : Nat) (hin : inOk s l = true) (hs : ShAt w S s a c a' c') (hl : IntsAt w S' l ai ci) (hS : ∀ b, S b → b < q) (hS' : ∀ b, S' b → b < q)
    (hbd : BdAt w q s l a c a' c' ai ci (.slice none 0 0) (.slice none 0 0)) (k : Int) (h0 : 0 ≤ k) (h9 : k ≤ 9) :
    Calls Try.prog 63 #[.pointer (some ⟨q, 0, none⟩), .int .i64 k] w (KeyPost s l q a c a' c' ai ci (.slice none 0 0) (.slice none 0 0) [] k w) :=
  key_all (s.m.length + 1) (.slice none 0 0) (.slice none 0 0) [] k w (by simp) ⟨hin, hs, hl, hS, hS', hbd, World.ownsRow_nil _ _ _ _, h0, h9, Hyp.nil, by simp⟩

theorem specBuildKey_pre {s : Sh} {l : List Int} {key : Int} (h : (inOk s l && decide (0 ≤ key ∧ key < s.m.length)) = false) : bkOk s l key = false := by
  unfold bkOk
  rw [← Bool.and_assoc, h]; rfl

set_option maxRecDepth 100000 in
set_option maxHeartbeats 2000000 in
theorem specBuildKey_any (s : Sh) (l : List Int) (key : Int) (w : World) (S0 S0' : Nat → Prop) (a : Option Addr) (c : Nat) (a' : Option Addr) (c' : Nat) (ai : Option Addr) (ci : Nat) (h0 : ShAt w S0 s a c a' c') (hn : nodesL s.t ≤ 1048576) (hl0 : IntsAt w S0' l ai ci) :
    Calls Try.prog 18 #[.agg #[.slice a s.m.length c, .slice a' s.t.length c'], .slice ai l.length ci, .int .i64 key] w (BkPost s l key w) := by
  obtain ⟨S, hSd⟩ : ∃ S : Nat → Prop, S = fun b => S0 b ∧ b < w.heap.size := ⟨_, rfl⟩
  have hSl : ∀ b, S b → b < w.heap.size := by rw [hSd]; exact fun b h => h.2
  have h : ShAt w S s a c a' c' := by rw [hSd]; exact h0.lim
  obtain ⟨S', hSd'⟩ : ∃ S : Nat → Prop, S = fun b => S0' b ∧ b < w.heap.size := ⟨_, rfl⟩
  have hSl' : ∀ b, S' b → b < w.heap.size := by rw [hSd']; exact fun b h => h.2
  have hl : IntsAt w S' l ai ci := by rw [hSd']; exact hl0.lim
  have K0 := Lib.hid (Ks.start (ty := 26) h)
  have L0 := Lib.hid (hl.alloc (.cells #[.slice a s.m.length c, .slice a' s.t.length c'] 26))
  have HSL := Lib.hid (And.intro hSl hSl')
  have HN := Lib.hid hn
  have hlm : s.m.length ≤ 9223372036854775807 := by have := h.1.1; have := h.1.2.1; omega
  clear h hl h0 hl0 hSd hSd' hSl hSl' hn
  obtain ⟨x0, x1⟩ := K0.out.box
  cases hin : inOk s l
  · have HNO := Lib.hid (show bkOk s l key = false from specBuildKey_pre (by rw [hin]; rfl))
    have HI := Lib.hid hin
    clear hin
    go_enter Try.func18, Try.ntmps18
    go_wp2_with fail
    refine (specInputs_any s l _ S S' a c a' c' ai ci K0.out.2 HN.out L0.out).mono ?_
    rintro e w1 ⟨rfl, hb⟩
    rw [HI.out]
    have K1 := Lib.hid (K0.out.step hb)
    clear hb x0 x1
    go_wp2_with fail
    go_ret2
    exact BkPost.no HNO.out K1.out.done
  have hmb : s.m.length ≤ 10 := (Sh.ok_iff.1 (inOk_of hin).1).1
  have hdk : decide (0 ≤ key ∧ key ≤ (s.m.length : Int) - 1) = decide (0 ≤ key ∧ key < s.m.length) := by
    by_cases hk : 0 ≤ key ∧ key < s.m.length
    · rw [decide_eq_true hk, decide_eq_true (by omega)]
    · rw [decide_eq_false hk, decide_eq_false (by omega)]
  cases hk : decide (0 ≤ key ∧ key < s.m.length)
  · have HNO := Lib.hid (show bkOk s l key = false from specBuildKey_pre (by rw [hk, Bool.and_false]))
    have HI := Lib.hid hin
    rw [hk] at hdk
    have HK := Lib.hid hdk
    clear hin hk hdk
    go_enter Try.func18, Try.ntmps18
    go_wp2_with fail
    refine (specInputs_any s l _ S S' a c a' c' ai ci K0.out.2 HN.out L0.out).mono ?_
    rintro e w1 ⟨rfl, hb⟩
    rw [HI.out]
    have K1 := Lib.hid (K0.out.step hb)
    clear hb x0 x1
    obtain ⟨x0, x1⟩ := K1.out.box
    go_wp2_with fail
    refine (in_any _ _ _ _).mono ?_
    rintro e w2 ⟨rfl, rfl⟩
    rw [HK.out]
    go_wp2_with fail
    go_ret2
    exact BkPost.no HNO.out K1.out.done
  · have hk2 : 0 ≤ key ∧ key < s.m.length := by simpa using hk
    have hbk : bkOk s l key = okS s l key := by unfold bkOk; rw [hin, hk]; rfl
    have HBK := Lib.hid hbk
    have HI := Lib.hid hin
    rw [hk] at hdk
    have HK := Lib.hid hdk
    clear hin hk hdk hbk
    go_enter Try.func18, Try.ntmps18
    go_wp2_with fail
    refine (specInputs_any s l _ S S' a c a' c' ai ci K0.out.2 HN.out L0.out).mono ?_
    rintro e w1 ⟨rfl, hb⟩
    rw [HI.out]
    have K1 := Lib.hid (K0.out.step hb)
    have L1 := Lib.hid (L0.out.below hb)
    clear hb x0 x1
    obtain ⟨x0, x1⟩ := K1.out.box
    go_wp2_with fail
    refine (in_any _ _ _ _).mono ?_
    rintro e w2 ⟨rfl, rfl⟩
    rw [HK.out]
    go_wp2_with fail
    have hsz := K1.out.size
    have hbd := Blk.new w1 83 #[.slice a s.m.length c, .slice a' s.t.length c', .slice ai l.length ci, .slice none 0 0, .slice none 0 0]
    refine (key_top (S := S) (S' := S') w1.heap.size HI.out (K1.out.2.alloc _) (L1.out.alloc _) (fun b hb => by have := HSL.out.1 b hb; omega) (fun b hb => by have := HSL.out.2 b hb; omega) hbd key hk2.1 (by omega)).mono ?_
    rintro e w3 ⟨uv, cv, v, b, rfl, _, _, hfr, _, hor⟩
    have hb3 : Below w.heap.size w w3 := (K1.out.done.alloc (by omega) _).trans ⟨hfr.1, hfr.2.1, hfr.2.2.1, hfr.2.2.2.1, fun i hi => hfr.2.2.2.2 i (by simp; omega) (fun h => by
      rcases h with h | h
      · omega
      · simp [Value.ownBlock] at h)⟩
    have HB3 := Lib.hid hb3
    rcases hor with ⟨rfl, ho, hv, _⟩ | ⟨rfl, ho, _⟩
    · have HY := Lib.hid (And.intro (show bkOk s l key = true by rw [HBK.out]; exact ho) hv)
      clear hb3 hfr hbd ho hv
      go_wp2_with fail
      go_ret2
      exact BkPost.yes HY.out.1 HY.out.2 HB3.out
    · have HNO := Lib.hid (show bkOk s l key = false by rw [HBK.out]; exact ho)
      clear hb3 hfr hbd ho
      go_wp2_with fail
      go_ret2
      exact BkPost.no HNO.out HB3.out
end Go.Proofs.Ytohogojphnlhpaa

/- spec.CircleOf, spec.BuildAll -/
namespace Go.Proofs.Ytohogojphnlhpaa
open Go.RowKit

noncomputable def coB (s : Sh) (l : List Int) (key : Int) : Bool := (inOk s l && decide (0 ≤ key ∧ key < s.m.length)) && !okS s l key
noncomputable def coL (s : Sh) (l : List Int) (key : Int) : List Int := if coB s l key = true then circ s.m.length (chS s l) (okS s l) [] key else []
def CoPost (s : Sh) (l : List Int) (key : Int) (w : World) (e : Ending) (w' : World) : Prop := Below w.heap.size w w' ∧ ∃ v, e = .returned (.tuple #[v, .bool (coB s l key)]) ∧ NumRow w' w.heap.size v (coL s l key)
theorem CoPost.no {s : Sh} {l : List Int} {key : Int} {w w' : World} {v : Value} (h : coB s l key = false) (hb : Below w.heap.size w w') (hv : NumRow w' w.heap.size v []) : CoPost s l key w (.returned (.tuple #[v, .bool false])) w' := by
  refine ⟨hb, v, by rw [h], ?_⟩
  unfold coL
  rw [h]; exact hv
theorem CoPost.yes {s : Sh} {l : List Int} {key : Int} {w w' : World} {v : Value} (h : coB s l key = true) (hb : Below w.heap.size w w') (hv : NumRow w' w.heap.size v (circ s.m.length (chS s l) (okS s l) [] key)) : CoPost s l key w (.returned (.tuple #[v, .bool true])) w' := by
  refine ⟨hb, v, by rw [h], ?_⟩
  unfold coL
  rw [h]; exact hv

set_option maxRecDepth 100000 in
set_option maxHeartbeats 2000000 in
theorem specCircle_any (s : Sh) (l : List Int) (key : Int) (w : World) (S0 S0' : Nat → Prop) (a : Option Addr) (c : Nat) (a' : Option Addr) (c' : Nat) (ai : Option Addr) (ci : Nat) (h0 : ShAt w S0 s a c a' c') (hn : nodesL s.t ≤ 1048576) (hl0 : IntsAt w S0' l ai ci) :
    Calls Try.prog 26 #[.agg #[.slice a s.m.length c, .slice a' s.t.length c'], .slice ai l.length ci, .int .i64 key] w (CoPost s l key w) := by
  obtain ⟨S, hSd⟩ : ∃ S : Nat → Prop, S = fun b => S0 b ∧ b < w.heap.size := ⟨_, rfl⟩
  have hSl : ∀ b, S b → b < w.heap.size := by rw [hSd]; exact fun b h => h.2
  have h : ShAt w S s a c a' c' := by rw [hSd]; exact h0.lim
  obtain ⟨S', hSd'⟩ : ∃ S : Nat → Prop, S = fun b => S0' b ∧ b < w.heap.size := ⟨_, rfl⟩
  have hSl' : ∀ b, S' b → b < w.heap.size := by rw [hSd']; exact fun b h => h.2
  have hl : IntsAt w S' l ai ci := by rw [hSd']; exact hl0.lim
  have K0 := Lib.hid (Ks.start (ty := 26) h)
  have L0 := Lib.hid (hl.alloc (.cells #[.slice a s.m.length c, .slice a' s.t.length c'] 26))
  have HSL := Lib.hid (And.intro hSl hSl')
  have HN := Lib.hid hn
  have hlm : s.m.length ≤ 9223372036854775807 := by have := h.1.1; have := h.1.2.1; omega
  clear h hl h0 hl0 hSd hSd' hSl hSl' hn
  obtain ⟨x0, x1⟩ := K0.out.box
  have hrn : ∀ W : World, w.heap.size ≤ W.heap.size → NumRow (W.alloc (.cells #[] 3)) w.heap.size (.slice (some ⟨W.heap.size, 0, none⟩) 0 0) [] := fun W hW => ownsRow_low (rowN_new W) hW
  have HRN := Lib.hid hrn
  clear hrn
  cases hin : inOk s l
  · have HNO := Lib.hid (show coB s l key = false by unfold coB; rw [hin]; rfl)
    have HI := Lib.hid hin
    clear hin
    go_enter Try.func26, Try.ntmps26
    go_wp2_with fail
    refine (specInputs_any s l _ S S' a c a' c' ai ci K0.out.2 HN.out L0.out).mono ?_
    rintro e w1 ⟨rfl, hb⟩
    rw [HI.out]
    have K1 := Lib.hid (K0.out.step hb)
    clear hb x0 x1
    go_wp2_with fail
    go_ret2
    exact CoPost.no HNO.out (K1.out.alloc _).done (HRN.out _ K1.out.done.size)
  have hmb : s.m.length ≤ 10 := (Sh.ok_iff.1 (inOk_of hin).1).1
  have hdk : decide (0 ≤ key ∧ key ≤ (s.m.length : Int) - 1) = decide (0 ≤ key ∧ key < s.m.length) := by
    by_cases hk : 0 ≤ key ∧ key < s.m.length
    · rw [decide_eq_true hk, decide_eq_true (by omega)]
    · rw [decide_eq_false hk, decide_eq_false (by omega)]
  cases hk : decide (0 ≤ key ∧ key < s.m.length)
  · have HNO := Lib.hid (show coB s l key = false by unfold coB; rw [hk]; simp)
    have HI := Lib.hid hin
    rw [hk] at hdk
    have HK := Lib.hid hdk
    clear hin hk hdk
    go_enter Try.func26, Try.ntmps26
    go_wp2_with fail
    refine (specInputs_any s l _ S S' a c a' c' ai ci K0.out.2 HN.out L0.out).mono ?_
    rintro e w1 ⟨rfl, hb⟩
    rw [HI.out]
    have K1 := Lib.hid (K0.out.step hb)
    clear hb x0 x1
    obtain ⟨x0, x1⟩ := K1.out.box
    go_wp2_with fail
    refine (in_any _ _ _ _).mono ?_
    rintro e w2 ⟨rfl, rfl⟩
    rw [HK.out]
    go_wp2_with fail
    go_ret2
    exact CoPost.no HNO.out (K1.out.alloc _).done (HRN.out _ K1.out.done.size)
  · have hk2 : 0 ≤ key ∧ key < s.m.length := by simpa using hk
    have hbk : coB s l key = !okS s l key := by unfold coB; rw [hin, hk]; rfl
    have HBK := Lib.hid hbk
    have HI := Lib.hid hin
    rw [hk] at hdk
    have HK := Lib.hid hdk
    clear hin hk hdk hbk
    go_enter Try.func26, Try.ntmps26
    go_wp2_with fail
    refine (specInputs_any s l _ S S' a c a' c' ai ci K0.out.2 HN.out L0.out).mono ?_
    rintro e w1 ⟨rfl, hb⟩
    rw [HI.out]
    have K1 := Lib.hid (K0.out.step hb)
    have L1 := Lib.hid (L0.out.below hb)
    clear hb x0 x1
    obtain ⟨x0, x1⟩ := K1.out.box
    go_wp2_with fail
    refine (in_any _ _ _ _).mono ?_
    rintro e w2 ⟨rfl, rfl⟩
    rw [HK.out]
    go_wp2_with fail
    have hsz := K1.out.size
    have hbd := Blk.new w1 83 #[.slice a s.m.length c, .slice a' s.t.length c', .slice ai l.length ci, .slice none 0 0, .slice none 0 0]
    refine (key_top (S := S) (S' := S') w1.heap.size HI.out (K1.out.2.alloc _) (L1.out.alloc _) (fun b hb => by have := HSL.out.1 b hb; omega) (fun b hb => by have := HSL.out.2 b hb; omega) hbd key hk2.1 (by omega)).mono ?_
    rintro e w3 ⟨uv, cv, v, b, rfl, hbd3, _, hfr, _, hor⟩
    have hb3 : Below w.heap.size w w3 := (K1.out.done.alloc (by omega) _).trans ⟨hfr.1, hfr.2.1, hfr.2.2.1, hfr.2.2.2.1, fun i hi => hfr.2.2.2.2 i (by simp; omega) (fun h => by
      rcases h with h | h
      · omega
      · simp [Value.ownBlock] at h)⟩
    have HB3 := Lib.hid hb3
    obtain ⟨y0, y1, y2, y3, y4, _⟩ := Blk.five hbd3
    have hs3 := hfr.size
    simp only [World.size_alloc] at hs3
    rcases hor with ⟨rfl, ho, hv, _⟩ | ⟨rfl, ho, hrow⟩
    · have HNO := Lib.hid (show coB s l key = false by rw [HBK.out, ho]; rfl)
      clear hb3 hfr hbd ho hv hbd3
      go_wp2_with fail
      go_ret2
      exact CoPost.no HNO.out (HB3.out.alloc (by omega) _) (HRN.out _ (by omega))
    · have HY := Lib.hid (And.intro (show coB s l key = true by rw [HBK.out, ho]; rfl) (ownsRow_low hrow (show w.heap.size ≤ _ by simp; omega)))
      obtain ⟨a5, c5, rfl, _⟩ := ElRow.at (f := Value.int .i64) (e := 3) hrow
      clear hb3 hfr hbd ho hrow hbd3
      go_wp2_with fail
      go_ret2
      exact CoPost.yes HY.out.1 HB3.out HY.out.2

noncomputable def baTo (s : Sh) (l : List Int) (k : Nat) : Bool := (List.range k).all fun (i : Nat) => okS s l (i : Int)
noncomputable def baVs (s : Sh) (l : List Int) (k : Nat) : List Int := (List.range k).map fun (i : Nat) => vsS s l (i : Int)
noncomputable def baB (s : Sh) (l : List Int) : Bool := inOk s l && baTo s l s.m.length
noncomputable def baL (s : Sh) (l : List Int) : List Int := if baB s l = true then baVs s l s.m.length else []
def BaPost (s : Sh) (l : List Int) (w : World) (e : Ending) (w' : World) : Prop := Below w.heap.size w w' ∧ ∃ v, e = .returned (.tuple #[v, .bool (baB s l)]) ∧ NumRow w' w.heap.size v (baL s l)
theorem BaPost.no {s : Sh} {l : List Int} {w w' : World} {v : Value} (h : baB s l = false) (hb : Below w.heap.size w w') (hv : NumRow w' w.heap.size v []) : BaPost s l w (.returned (.tuple #[v, .bool false])) w' := by
  refine ⟨hb, v, by rw [h], ?_⟩
  unfold baL
  rw [h]; exact hv
theorem BaPost.yes {s : Sh} {l : List Int} {w w' : World} {v : Value} (h : baB s l = true) (hb : Below w.heap.size w w') (hv : NumRow w' w.heap.size v (baVs s l s.m.length)) : BaPost s l w (.returned (.tuple #[v, .bool true])) w' := by
  refine ⟨hb, v, by rw [h], ?_⟩
  unfold baL
  rw [h]; exact hv
theorem baTo_succ (s : Sh) (l : List Int) (k : Nat) : baTo s l (k + 1) = (baTo s l k && okS s l (k : Int)) := by unfold baTo; rw [List.range_succ, List.all_append]; simp
theorem baVs_succ (s : Sh) (l : List Int) (k : Nat) : baVs s l (k + 1) = baVs s l k ++ [vsS s l (k : Int)] := by unfold baVs; rw [List.range_succ, List.map_append]; rfl
theorem baVs_len (s : Sh) (l : List Int) (k : Nat) : (baVs s l k).length = k := by simp [baVs]
theorem baTo_false {s : Sh} {l : List Int} {k n : Nat} (h : k < n) (ho : okS s l (k : Int) = false) : baTo s l n = false := by
  cases hx : baTo s l n
  · rfl
  · unfold baTo at hx
    rw [List.all_eq_true] at hx
    rw [hx k (List.mem_range.2 h)] at ho
    cases ho
theorem bkOk_in {s : Sh} {l : List Int} {k : Nat} (hin : inOk s l = true) (hk : k < s.m.length) : bkOk s l (k : Int) = okS s l (k : Int) := by
  unfold bkOk
  rw [hin, decide_eq_true (by omega)]; rfl

set_option maxRecDepth 100000 in
set_option maxHeartbeats 2000000 in
theorem specAll_any (s : Sh) (l : List Int) (w : World) (S0 S0' : Nat → Prop) (a : Option Addr) (c : Nat) (a' : Option Addr) (c' : Nat) (ai : Option Addr) (ci : Nat) (h0 : ShAt w S0 s a c a' c') (hn : nodesL s.t ≤ 1048576) (hl0 : IntsAt w S0' l ai ci) :
    Calls Try.prog 22 #[.agg #[.slice a s.m.length c, .slice a' s.t.length c'], .slice ai l.length ci] w (BaPost s l w) := by
  obtain ⟨S, hSd⟩ : ∃ S : Nat → Prop, S = fun b => S0 b ∧ b < w.heap.size := ⟨_, rfl⟩
  have hSl : ∀ b, S b → b < w.heap.size := by rw [hSd]; exact fun b h => h.2
  have h : ShAt w S s a c a' c' := by rw [hSd]; exact h0.lim
  obtain ⟨S', hSd'⟩ : ∃ S : Nat → Prop, S = fun b => S0' b ∧ b < w.heap.size := ⟨_, rfl⟩
  have hSl' : ∀ b, S' b → b < w.heap.size := by rw [hSd']; exact fun b h => h.2
  have hl : IntsAt w S' l ai ci := by rw [hSd']; exact hl0.lim
  have HSL := Lib.hid (And.intro hSl hSl')
  have K0 := Lib.hid ((Ks.start (ty := 26) h).alloc (.cells #[] 3))
  have L0 := Lib.hid ((hl.alloc (.cells #[.slice a s.m.length c, .slice a' s.t.length c'] 26)).alloc (.cells #[] 3))
  have HN := Lib.hid hn
  have hlm : s.m.length ≤ 9223372036854775807 := by have := h.1.1; have := h.1.2.1; omega
  have hr0 := rowN_new (w.alloc (.cells #[.slice a s.m.length c, .slice a' s.t.length c'] 26))
  simp only [World.size_alloc] at hr0
  have HR0 := Lib.hid hr0
  clear h hl hn hr0 h0 hl0 hSd hSd' hSl hSl'
  obtain ⟨x0, x1⟩ := K0.out.box
  cases hin : inOk s l
  · have HNO := Lib.hid (show baB s l = false by unfold baB; rw [hin]; rfl)
    have HI := Lib.hid hin
    clear hin
    go_enter Try.func22, Try.ntmps22
    go_wp2_with fail
    refine (specInputs_any s l _ S S' a c a' c' ai ci K0.out.2 HN.out L0.out).mono ?_
    rintro e w1 ⟨rfl, hb⟩
    rw [HI.out]
    have K1 := Lib.hid (K0.out.step hb)
    have R1 := Lib.hid (ownsRow_low (ElRow.below (f := Value.int .i64) (e := 3) HR0.out hb) (Nat.le_succ _))
    clear hb x0 x1
    go_wp2_with fail
    go_ret2
    exact BaPost.no HNO.out K1.out.done R1.out
  · have hmb : s.m.length ≤ 10 := (Sh.ok_iff.1 (inOk_of hin).1).1
    have hbb : baB s l = baTo s l s.m.length := by unfold baB; rw [hin]; rfl
    have HBB := Lib.hid hbb
    have HI := Lib.hid hin
    obtain ⟨iN, ni, nz0, nz1, nz2⟩ := info_parts infoInt
    have HIN := Lib.hid (And.intro ni (And.intro nz0 (And.intro nz1 nz2)))
    have hml : maxLen = 9223372036854775807 := rfl
    have HML := Lib.hid hml
    clear hin hbb ni nz0 nz1 nz2 hml
    go_enter Try.func22, Try.ntmps22
    go_wp2_with fail
    refine (specInputs_any s l _ S S' a c a' c' ai ci K0.out.2 HN.out L0.out).mono ?_
    rintro e w1 ⟨rfl, hb⟩
    rw [HI.out]
    have K1 := Lib.hid (K0.out.step hb)
    have L1 := Lib.hid (L0.out.below hb)
    have R1 := Lib.hid (ElRow.below (f := Value.int .i64) (e := 3) HR0.out hb)
    clear hb x0 x1 K0 L0 HR0
    go_wp2_with fail
    go_loopw [6, 7] (fun v i wr => ∃ k : Nat, k ≤ s.m.length ∧ i = .int .i64 k ∧ baTo s l k = true ∧ NumRow wr (w.heap.size + 1) v (baVs s l k) ∧ Ks S s a c a' c' 26 w wr ∧ IntsAt wr S' l ai ci) (fun _ i _ => s.m.length - (intOf i).toNat)
    case atStart => exact ⟨0, by omega, rfl, rfl, R1.out, K1.out, L1.out⟩
    case round =>
      obtain ⟨k, hk, rfl, hq, hr, hks, hil⟩ := hrel
      have HQ := Lib.hid hq
      have HR := Lib.hid hr
      have K2 := Lib.hid hks
      have L2 := Lib.hid hil
      clear hq hr hks hil K1 L1 R1
      obtain ⟨x0, x1⟩ := K2.out.box
      by_cases hlt : k < s.m.length
      · have hbk := bkOk_in HI.out hlt
        have HBK := Lib.hid hbk
        have hwsz := K2.out.size
        clear hbk
        go_wp2_with fail
        refine (specBuildKey_any s l k _ S S' a c a' c' ai ci K2.out.2 HN.out L2.out).mono ?_
        rintro e w2 ⟨rfl, hb⟩
        have K3 := Lib.hid (K2.out.step hb)
        have L3 := Lib.hid (L2.out.below hb)
        have R3 := Lib.hid (ElRow.below (f := Value.int .i64) (e := 3) HR.out hb)
        have hs2 := hb.size
        clear hb x0 x1 K2 L2 HR
        cases ho : okS s l (k : Int)
        · have hv : bkV s l (k : Int) = 0 := by unfold bkV; rw [HBK.out, ho]; rfl
          rw [hv, HBK.out, ho]
          have HX := Lib.hid (show baB s l = false by rw [HBB.out]; exact baTo_false hlt ho)
          clear hv ho
          go_wp2_with fail
          go_ret2
          exact BaPost.no HX.out (K3.out.alloc _).done (ownsRow_low (rowN_new w2) (by omega))
        · have hv : bkV s l (k : Int) = vsS s l (k : Int) := by unfold bkV; rw [HBK.out, ho]; rfl
          rw [hv, HBK.out, ho]
          have HX := Lib.hid (show baTo s l (k + 1) = true by rw [baTo_succ, HQ.out, ho]; rfl)
          obtain ⟨x, hx⟩ : ∃ x, x = vsS s l (k : Int) := ⟨_, rfl⟩
          rw [← hx]
          have HXE := Lib.hid hx
          obtain ⟨G, hG⟩ : ∃ G, G = baVs s l k := ⟨_, rfl⟩
          have hgow : w2.ownsRow (w.heap.size + 1) 3 1 u6 k (G.map (.int .i64)) := by
            have h := R3.out
            unfold ElRow at h
            rw [baVs_len] at h
            rw [hG]; exact h
          have HGO := Lib.hid hgow
          have HG := Lib.hid hG
          clear hv ho hx hG hgow
          go_wp2_with (at_builtin; refine wpList_append_row _ rfl (.tmp 33) (.tmp 35) 30 rfl (w.heap.size + 1) 3 iN (.int .i64 0) 1 8 Try.underlying30 HIN.out.1 HIN.out.2.1 HIN.out.2.2.1 HIN.out.2.2.2 rfl (by decide) _ k (G.map (.int .i64)) rfl (World.ownsRow.alloc HGO.out _) ⟨w2.heap.size, 0, none⟩ 1 1 [.int .i64 x] rfl rfl ?d1 ?d2 (by decide) ?d3 ?d4 ?d5 ?_)
          case d1 => exact news1 _ _ _
          case d2 => simp [Value.oneCell']
          case d3 => rw [HML.out]; omega
          case d4 => omega
          case d5 => simp; omega
          intro v2 w3 hown hgr hnew
          have hr3 : NumRow w3 (w.heap.size + 1) v2 (baVs s l (k + 1)) := by
            unfold NumRow
            rw [baVs_len, baVs_succ, List.map_append, ← HG.out, ← HXE.out]
            exact hown
          have hgfr : Fr (fun b => u6.ownBlock = some b) w2 w3 := (show Fr (fun b => u6.ownBlock = some b) w2 _ from Fr.of_below ((Below.refl w2.heap.size w2).alloc (Nat.le_refl _) (.cells #[.int .i64 x] 3))).trans (fr_grown hgr) (fun b hb => .inl hb)
          have hge := own_ge HGO.out
          have H3 := Lib.hid (And.intro hr3 (And.intro (K3.out.fr hgfr hge HSL.out.1) (L3.out.fr hgfr (fun b hb h => by have := hge b h; have := HSL.out.2 b hb; omega))))
          clear hown hgr hnew hr3 hgfr hge
          go_wp2_with fail
          go_roundw
          case rel => exact ⟨k + 1, by omega, by go_num, HX.out, H3.out.1, H3.out.2.1, H3.out.2.2⟩
          case measure => simp [intOf]; omega
      · have hf : baB s l = true := by rw [HBB.out]; have := HQ.out; rwa [show k = s.m.length by omega] at this
        have HF := Lib.hid (And.intro hf (show NumRow wr w.heap.size u6 (baVs s l s.m.length) from by
          have h := HR.out
          rw [show k = s.m.length by omega] at h
          exact ownsRow_low h (Nat.le_succ _)))
        clear hf
        go_wp2_with fail
        go_ret2
        exact BaPost.yes HF.out.1 K2.out.done HF.out.2
end Go.Proofs.Ytohogojphnlhpaa

/- impl.BuildAll -/
namespace Go.Proofs.Ytohogojphnlhpaa
open Go.RowKit

theorem irow_row {w : World} {g base : Nat} {l : List Int} (h : IRow w g l.length l) (hb : base ≤ g) (hl : l.length ≤ 9223372036854775807) : NumRow w base (.slice (some ⟨g, 0, none⟩) l.length l.length) l := by
  obtain ⟨cs, h1, h2, h3⟩ := h
  refine ElRow.of_blk (f := Value.int .i64) h1 hb (List.ext_getElem (by simp [h2]) fun i hi1 hi2 => ?_) hl
  have h := h3 i (by simpa using hi2)
  obtain ⟨_, h⟩ := Array.getElem?_eq_some_iff.1 h
  simp [h]
theorem IRow.set_snoc {w : World} {g n : Nat} {l : List Int} (h : IRow w g n l) (hl : l.length < n) (x : Int) : IRow (w.setCell ⟨g, l.length, none⟩ (.int .i64 x)) g n (l ++ [x]) := by
  obtain ⟨cs, h1, h2, h3⟩ := h
  refine ⟨_, h1.set_ _ _, by simp [h2], fun i hi => ?_⟩
  rw [List.length_append, List.length_singleton] at hi
  rw [Array.getElem?_setIfInBounds]
  by_cases hil : l.length = i
  · subst hil
    rw [if_pos rfl, if_pos (by omega)]; simp
  · rw [if_neg hil, List.getElem_append_left (by omega)]
    exact h3 i (by omega)
theorem IRow.fr {D : Nat → Prop} {w w' : World} {g n : Nat} {l : List Int} (h : IRow w g n l) (hf : Fr D w w') (hD : ¬ D g) : IRow w' g n l := by
  obtain ⟨cs, h1, h2, h3⟩ := h
  exact ⟨cs, h1.fr hf hD, h2, h3⟩
theorem IRow.below {w w' : World} {g n : Nat} {l : List Int} (h : IRow w g n l) (hb : Below w.heap.size w w') : IRow w' g n l := by
  obtain ⟨cs, h1, h2, h3⟩ := h
  exact ⟨cs, h1.below hb h1.lt, h2, h3⟩
theorem IRow.lt {w : World} {g n : Nat} {l : List Int} (h : IRow w g n l) : g < w.heap.size := by obtain ⟨_, h1, _⟩ := h; exact h1.lt

set_option maxRecDepth 100000 in
set_option maxHeartbeats 4000000 in
theorem implAll_any (s : Sh) (l : List Int) (w : World) (S0 S' : Nat → Prop) (a : Option Addr) (c : Nat) (a' : Option Addr) (c' : Nat) (ai : Option Addr) (ci : Nat) (h0 : ShAt w S0 s a c a' c') (hl : IntsAt w S' l ai ci) :
    Calls Try.prog 19 #[.agg #[.slice a s.m.length c, .slice a' s.t.length c'], .slice ai l.length ci] w (BaPost s l w) := by
  obtain ⟨S, hSd⟩ : ∃ S : Nat → Prop, S = fun b => S0 b ∧ b < w.heap.size := ⟨_, rfl⟩
  have hSl : ∀ b, S b → b < w.heap.size := by rw [hSd]; exact fun b h => h.2
  have h : ShAt w S s a c a' c' := by rw [hSd]; exact h0.lim
  have HSL := Lib.hid hSl
  clear h0 hSd hSl
  have K0 := Lib.hid (Ks.start (ty := 26) h)
  have L0 := Lib.hid (hl.alloc (.cells #[.slice a s.m.length c, .slice a' s.t.length c'] 26))
  clear h hl
  obtain ⟨x0, x1⟩ := K0.out.box
  cases hin : inOk s l
  · have HNO := Lib.hid (show baB s l = false by unfold baB; rw [hin]; rfl)
    have HI := Lib.hid hin
    clear hin
    go_enter Try.func19, Try.ntmps19
    go_wp2_with fail
    refine (implInputs_any s l _ S S' a c a' c' ai ci K0.out.2 L0.out).mono ?_
    rintro e w1 ⟨rfl, hb⟩
    rw [HI.out]
    have K1 := Lib.hid (K0.out.step hb)
    clear hb x0 x1
    go_wp2_with fail
    go_ret2
    exact BaPost.no HNO.out K1.out.done (World.ownsRow_nil _ _ _ _)
  · have hok := (inOk_of hin).1
    have hll := (inOk_of hin).2.1
    have hmb : s.m.length ≤ 10 := (Sh.ok_iff.1 hok).1
    have hbb : baB s l = baTo s l s.m.length := by unfold baB; rw [hin]; rfl
    have HBB := Lib.hid hbb
    have HI := Lib.hid hin
    have HOK := Lib.hid hok
    obtain ⟨n, hn⟩ : ∃ n, n = s.m.length := ⟨_, rfl⟩
    have HN := Lib.hid hn
    have hll2 : l.length = n := by omega
    have HLL := Lib.hid hll2
    have hn10 : n ≤ 10 := by omega
    obtain ⟨i0, hi, hz0, hz1, hz2⟩ := info_parts infoInt
    have hmk := fun W => run_make_rowN (P := Try.prog) 30 3 i0 _ Try.underlying30 hi hz0 .i64 .i64 n n (Nat.le_refl _) (by rw [hz2]; omega) (by omega) W
    rw [hz1] at hmk
    clear hin hbb hok hll hn hll2 hmb
    go_enter Try.func19, Try.ntmps19
    go_wp2_with fail
    refine (implInputs_any s l _ S S' a c a' c' ai ci K0.out.2 L0.out).mono ?_
    rintro e w1 ⟨rfl, hb⟩
    rw [HI.out]
    have K1 := Lib.hid (K0.out.step hb)
    have L1 := Lib.hid (L0.out.below hb)
    clear hb x0 x1 K0 L0
    obtain ⟨x0, x1⟩ := K1.out.box
    rw [HLL.out]
    have hwlt : w.heap.size < w1.heap.size := by have := K1.out.size; omega
    go_wp2_with fail
    clear hmk
    have HC2 := Lib.hid (nodes_any' s l _ S S' a c a' c' ai ci (K1.out.2.alloc (.cells (madeCells #[.int .i64 0] n) 3)) (L1.out.alloc (.cells (madeCells #[.int .i64 0] n) 3)) HI.out)
    have hm1 : (madeCells #[Value.int IntKind.i64 0] n).size = n := by rw [size_madeCells]
    have hir : IRow (w1.alloc (.cells (madeCells #[.int .i64 0] n) 3)) w1.heap.size n [] := ⟨_, heap_alloc_new w1 _, hm1, by simp⟩
    have K2 := Lib.hid (K1.out.alloc (.cells (madeCells #[.int .i64 0] n) 3))
    have hs2 : (w1.alloc (.cells (madeCells #[.int .i64 0] n) 3)).heap.size = w1.heap.size + 1 := by simp
    obtain ⟨W, hW⟩ : ∃ W, W = w1.alloc (.cells (madeCells #[.int .i64 0] n) 3) := ⟨_, rfl⟩
    rw [← hW] at HC2 hir K2 hs2 ⊢
    rw [HLL.out] at HC2
    obtain ⟨gv, hgv⟩ : ∃ g, g = w1.heap.size := ⟨_, rfl⟩
    rw [← hgv] at hir hs2 hwlt ⊢
    have HIR := Lib.hid hir
    clear hW hm1 hir K1 L1 x0 x1 hgv
    refine HC2.out.mono ?_
    rintro e w3 ⟨g, b, rfl, hb1, hg1, hnb, hp, hnd, hb⟩
    rw [← HN.out] at hp hnd hnb ⊢
    have hS : ∀ b, (fun b => S b ∧ b < W.heap.size) b → b < g := fun b hb => by have := hb.2; omega
    have HS := Lib.hid hS
    have HP3 := Lib.hid (And.intro hp (And.intro (nds_start HOK.out hnd) (And.intro (K2.out.step hb).done (HIR.out.below hb))))
    have HNB := Lib.hid hnb
    have hs3 := hb.size
    have hgw : g + n ≤ w3.heap.size ∨ n = 0 := by
      rcases Nat.eq_zero_or_pos n with h | h
      · exact .inr h
      · obtain ⟨_, _, hl, _⟩ := hnd.node (i := n - 1) (by omega)
        exact .inl (by omega)
    have hbl : n = 0 ∨ b < w3.heap.size := by
      rcases Nat.eq_zero_or_pos n with h | h
      · exact .inl h
      · exact .inr (cell_lt (hp.cell h))
    clear HC2 hb hp hnd hS hnb HIR K2
    go_wp2_with fail
    go_loopw [20] (fun i wr => ∃ (k : Nat) (d : Int → Bool), k ≤ n ∧ i = .int .i64 k ∧ (∀ i, i < k → okS s l (i : Int) = true) ∧ (∀ q, (!s.mdI q) = true → d q = true) ∧ (∀ q, d q = true → okS s l q = true) ∧ PRow wr b g n n ∧
      Nds wr (fun b => S b ∧ b < W.heap.size) s g n (mpv s g n) (fun q => if d q = true then vsS s l q else vf l q) d ∧ Below w.heap.size w wr ∧ IRow wr gv n (baVs s l k)) (fun i _ => n - (intOf i).toNat)
    case atStart => exact ⟨0, fun k => !s.mdI k, by omega, rfl, fun i hi => by omega, fun _ h => h, fun k h => (gr_S HOK.out l).d0ok k h, HP3.out.1, HP3.out.2.1, HP3.out.2.2.1, HP3.out.2.2.2⟩
    case round =>
      obtain ⟨k, d, hk, rfl, hall, hlo, hhi, hp, hnd, hb, hir⟩ := hrel
      have H4 := Lib.hid (And.intro hall (And.intro hlo (And.intro hhi (And.intro hp (And.intro hnd (And.intro hb hir))))))
      clear HP3 hall hlo hhi hnd hb hir
      by_cases hlt : k < n
      · have hcell := hp.cell hlt
        clear hp
        go_wp2_with fail
        have hg := gr_S HOK.out l
        have hst := try_step (S := fun b => S b ∧ b < W.heap.size) (g := g) HI.out HS.out
        rw [← HN.out] at hg hst
        refine (finish_any hg hst hn10 HS.out wr d k hlt H4.out.2.1 H4.out.2.2.1 H4.out.2.2.2.2.1).mono ?_
        rintro e w4 ⟨d2, L, a4, c4, rfl, hat, hnd2, hdd, hdo, hfr, _, ⟨rfl, hdf⟩ | ⟨hne, hnok, hLc⟩⟩
        · obtain ⟨_, _, hgk, _, _, _, _, _, e14, _, _, _⟩ := hnd2.node hlt
          have e : (fun d k => if d k = true then vsS s l k else vf l k) d2 (k : Int) = vsS s l k := by simp only [hdf, if_true]
          rw [e] at e14
          obtain ⟨v, hv⟩ : ∃ v, v = vsS s l (k : Int) := ⟨_, rfl⟩
          rw [← hv] at e14
          have HV := Lib.hid hv
          have hgvn : ¬ ndB g n gv := fun h => by have := h.1; omega
          have hir4 := H4.out.2.2.2.2.2.2.fr hfr hgvn
          have hp4 := H4.out.2.2.2.1.fr hfr HNB.out
          have hb4 : Below w.heap.size w w4 := below_nd H4.out.2.2.2.2.2.1 hfr (by omega) H4.out.2.2.2.2.2.1.size
          obtain ⟨cs, hbk, hcs, _⟩ := id hir4
          have hf := hbk.frozen k
          have hx : w4.cell? ⟨gv, k, none⟩ = some (cs[k]'(by omega)) := by rw [hbk.cell k]; simp
          obtain ⟨y, hy⟩ : ∃ y, y = cs[k]'(by omega) := ⟨_, rfl⟩
          rw [← hy] at hx
          have hset := hir4.set_snoc (by rw [baVs_len]; exact hlt) v
          rw [baVs_len, hv, ← baVs_succ, ← hv] at hset
          have hfs : Fr (fun b => b = gv) w4 (w4.setCell ⟨gv, k, none⟩ (.int .i64 v)) := Fr.set' (D := fun b => b = gv) (Fr.of_below (Below.refl _ _)) ⟨gv, k, none⟩ rfl _
          have hnd5 := hnd2.fr hfs (fun b hb => by
            rintro (h | h)
            · have := HSL.out b h.1; omega
            · omega)
          have hok2 : ∀ i, i < k + 1 → okS s l (i : Int) = true := fun i hi => by
            by_cases hik : i = k
            · subst hik; exact hdo _ hdf
            · exact H4.out.1 i (by omega)
          have H5 := Lib.hid (And.intro hok2 (And.intro (fun q hq => hdd q (H4.out.2.1 q hq)) (And.intro hdo (And.intro (hp4.fr hfs (fun h => by
            have := hbk.lt
            rcases hbl with h2 | h2
            · omega
            · rw [h] at hb1; omega)) (And.intro hnd5 (And.intro (hb4.setCell (p := ⟨gv, k, none⟩) (by simp; omega) (.int .i64 v)) hset))))))
          have hgv4 : gv < w4.heap.size := hir4.lt
          clear hat hnd2 hdd hdo hfr hdf e hv hir4 hp4 hb4 hbk hcs hy hset hfs hnd5 hok2 hg hst hcell
          go_wp2_with fail
          go_roundw
          case rel => exact ⟨k + 1, d2, by omega, by go_num, H5.out.1, H5.out.2.1, H5.out.2.2.1, H5.out.2.2.2.1, H5.out.2.2.2.2.1, H5.out.2.2.2.2.2.1, H5.out.2.2.2.2.2.2⟩
          case measure => simp [intOf]; omega
        · have hb4 : Below w.heap.size w w4 := below_nd H4.out.2.2.2.2.2.1 hfr (by omega) H4.out.2.2.2.2.2.1.size
          have HB4 := Lib.hid hb4
          have HNO := Lib.hid (show baB s l = false by rw [HBB.out]; exact baTo_false (by rw [← HN.out]; exact hlt) hnok)
          have hlp2 : 0 < L.length := List.length_pos_iff.2 hne
          have hlp : decide ((0 : Int) < (L.length : Int)) = true := decide_eq_true (by omega)
          have hlp3 : decide (0 < L.length) = true := decide_eq_true hlp2
          have hLm : L.length ≤ 9223372036854775807 := by have := hat.1; have := hat.2.1; omega
          clear hat hnd2 hdd hdo hfr hnok hLc hb4 hg hst hcell hne
          go_wp2_with fail
          go_ret2
          exact BaPost.no HNO.out HB4.out (World.ownsRow_nil _ _ _ _)
      · obtain rfl : n = k := by omega
        have hbt : baTo s l n = true := by
          unfold baTo
          rw [List.all_eq_true]
          intro i hi
          exact H4.out.1 i (List.mem_range.1 hi)
        have HY := Lib.hid (show baB s l = true by rw [HBB.out, ← HN.out]; exact hbt)
        clear hbt hp
        go_wp2_with fail
        go_ret2
        refine BaPost.yes HY.out H4.out.2.2.2.2.2.1 ?_
        rw [← HN.out]
        have h := irow_row (base := w.heap.size) (show IRow wr gv (baVs s l n).length (baVs s l n) by rw [baVs_len]; exact H4.out.2.2.2.2.2.2) (by omega) (by rw [baVs_len]; omega)
        rw [baVs_len] at h
        exact h
end Go.Proofs.Ytohogojphnlhpaa

/- impl.CircleOf -/
namespace Go.Proofs.Ytohogojphnlhpaa
open Go.RowKit

set_option maxRecDepth 100000 in
set_option maxHeartbeats 4000000 in
theorem implCircle_any (s : Sh) (l : List Int) (key : Int) (w : World) (S S' : Nat → Prop) (a : Option Addr) (c : Nat) (a' : Option Addr) (c' : Nat) (ai : Option Addr) (ci : Nat) (h : ShAt w S s a c a' c') (hl : IntsAt w S' l ai ci) :
    Calls Try.prog 25 #[.agg #[.slice a s.m.length c, .slice a' s.t.length c'], .slice ai l.length ci, .int .i64 key] w (CoPost s l key w) := by
  have K0 := Lib.hid (Ks.start (ty := 26) h)
  have L0 := Lib.hid (hl.alloc (.cells #[.slice a s.m.length c, .slice a' s.t.length c'] 26))
  clear h hl
  obtain ⟨x0, x1⟩ := K0.out.box
  cases hin : inOk s l
  · have HNO := Lib.hid (show coB s l key = false by unfold coB; rw [hin]; rfl)
    have HI := Lib.hid hin
    clear hin
    go_enter Try.func25, Try.ntmps25
    go_wp2_with fail
    refine (implInputs_any s l _ S S' a c a' c' ai ci K0.out.2 L0.out).mono ?_
    rintro e w1 ⟨rfl, hb⟩
    rw [HI.out]
    have K1 := Lib.hid (K0.out.step hb)
    clear hb x0 x1
    go_wp2_with fail
    go_ret2
    exact CoPost.no HNO.out K1.out.done (World.ownsRow_nil _ _ _ _)
  cases hk : decide (0 ≤ key ∧ key < s.m.length)
  · have HNO := Lib.hid (show coB s l key = false by unfold coB; rw [hk]; simp)
    have HI := Lib.hid hin
    have HK := Lib.hid hk
    clear hin hk
    go_enter Try.func25, Try.ntmps25
    go_wp2_with fail
    refine (implInputs_any s l _ S S' a c a' c' ai ci K0.out.2 L0.out).mono ?_
    rintro e w1 ⟨rfl, hb⟩
    rw [HI.out]
    have K1 := Lib.hid (K0.out.step hb)
    clear hb x0 x1
    obtain ⟨x0, x1⟩ := K1.out.box
    go_wp2_with fail
    refine (hasKey_any s _ S a c a' c' key K1.out.2).mono ?_
    rintro e w2 ⟨rfl, hb⟩
    rw [HK.out]
    have K2 := Lib.hid (K1.out.step hb)
    clear hb x0 x1
    go_wp2_with fail
    go_ret2
    exact CoPost.no HNO.out K2.out.done (World.ownsRow_nil _ _ _ _)
  · have hk2 : 0 ≤ key ∧ key < s.m.length := by simpa using hk
    obtain ⟨kn, rfl⟩ : ∃ kn : Nat, key = kn := ⟨key.toNat, by omega⟩
    have hkn : kn < s.m.length := by omega
    have hbk : coB s l kn = !okS s l kn := by unfold coB; rw [hin, hk]; rfl
    have HBK := Lib.hid hbk
    have HI := Lib.hid hin
    have HK := Lib.hid hk
    have h10 : s.m.length ≤ 10 := (Sh.ok_iff.1 (inOk_of hin).1).1
    obtain ⟨iN, ni, nz0, nz1, nz2⟩ := info_parts infoInt
    have HIN := Lib.hid (And.intro ni (And.intro nz0 (And.intro nz1 nz2)))
    have hml : maxLen = 9223372036854775807 := rfl
    have HML := Lib.hid hml
    clear hin hk hbk hk2 ni nz0 nz1 nz2 hml
    go_enter Try.func25, Try.ntmps25
    go_wp2_with fail
    refine (implInputs_any s l _ S S' a c a' c' ai ci K0.out.2 L0.out).mono ?_
    rintro e w1 ⟨rfl, hb⟩
    rw [HI.out]
    have K1 := Lib.hid (K0.out.step hb)
    have L1 := Lib.hid (L0.out.below hb)
    clear hb x0 x1
    obtain ⟨x0, x1⟩ := K1.out.box
    go_wp2_with fail
    refine (hasKey_any s _ S a c a' c' kn K1.out.2).mono ?_
    rintro e w2 ⟨rfl, hb⟩
    rw [HK.out]
    have K2 := Lib.hid (K1.out.step hb)
    have L2 := Lib.hid (L1.out.below hb)
    clear hb x0 x1
    obtain ⟨x0, x1⟩ := K2.out.box
    go_wp2_with fail
    refine (nodes_any' s l _ S S' a c a' c' ai ci K2.out.2 L2.out HI.out).mono ?_
    rintro e w3 ⟨g, b, rfl, hb1, hg1, hnb, hp, hnd, hb⟩
    have K3 := Lib.hid (K2.out.step hb)
    have HND := Lib.hid hnd
    have HG := Lib.hid (And.intro hg1 hb.size)
    have hcell := hp.cell hkn
    have hbl : b < w3.heap.size := cell_lt hcell
    clear hb hp hnd x0 x1 hg1
    go_wp2_with fail
    have hok := (inOk_of HI.out).1
    have hS : ∀ b, (fun b => S b ∧ b < w2.heap.size) b → b < g := fun b hb => by have := HG.out.1; have := hb.2; omega
    refine (finish_any (gr_S hok l) (try_step HI.out hS) h10 hS w3 (fun k => !s.mdI k) kn hkn (fun _ h => h) (fun k h => (gr_S hok l).d0ok k h) (nds_start hok HND.out)).mono ?_
    rintro e w4 ⟨d, L, a4, c4, rfl, hat, hnd, _, hdo, hfr, hLb, hor⟩
    have hb4 : Below w.heap.size w w4 := below_nd K3.out.done hfr (by have := HG.out.1; have := K2.out.size; omega) (by have := K3.out.size; omega)
    have hgw : g + s.m.length ≤ w4.heap.size := by
      obtain ⟨_, _, hl, _⟩ := hnd.node (i := s.m.length - 1) (by omega)
      omega
    have hs4 := hfr.size
    have hwg : w.heap.size + 1 ≤ g := by have := HG.out.1; have := K2.out.size; omega
    have H4 := Lib.hid (And.intro hat (And.intro hnd (And.intro hb4 hLb.2)))
    have HOR := Lib.hid (show (L = [] ∧ coB s l kn = false) ∨ (L ≠ [] ∧ coB s l kn = true ∧ L = circ s.m.length (chS s l) (okS s l) [] kn) from by
      rcases hor with ⟨h1, h2⟩ | ⟨h1, h2, h3⟩
      · exact .inl ⟨h1, by rw [HBK.out, hdo _ h2]; rfl⟩
      · exact .inr ⟨h1, by rw [HBK.out, h2]; rfl, h3⟩)
    have hLm : L.length ≤ 9223372036854775807 := by have := hat.1; have := hat.2.1; omega
    have hLn : L.length ≤ 10 := by have := hLb.1; omega
    clear hat hnd hdo hfr hLb hor hb4 hok hS hcell
    go_wp2_with fail
    go_loopw [8, 29] (fun v i wr => ∃ k : Nat, k ≤ L.length ∧ i = .int .i64 k ∧ NumRow wr w4.heap.size v (L.take k) ∧ Below w4.heap.size w4 wr) (fun _ i _ => L.length - (intOf i).toNat)
    case atStart => exact ⟨0, by omega, rfl, World.ownsRow_nil _ _ _ _, Below.refl _ _⟩
    case round =>
      obtain ⟨k, hk, rfl, hr, hb⟩ := hrel
      have HR := Lib.hid hr
      have HB := Lib.hid hb
      have hwr := hb.size
      clear hr hb
      by_cases hlt : k < L.length
      · obtain ⟨b4, o4, rfl, hbl4, _, hx⟩ := ElAt.get H4.out.1 HB.out hlt
        have hLk := H4.out.2.2.2 L[k] (List.getElem_mem _)
        obtain ⟨xn, hxn⟩ : ∃ xn : Nat, L[k] = (xn : Int) := ⟨L[k].toNat, by omega⟩
        have hxp : ndP g L[k] = .pointer (some ⟨g + xn, 0, none⟩) := by rw [hxn]; simp [ndP]
        rw [hxp] at hx
        obtain ⟨_, _, hgx, e0, _⟩ := (H4.out.2.1.below HB.out).node (i := xn) (by omega)
        have HXN := Lib.hid hxn
        obtain ⟨G, hG⟩ : ∃ G, G = L.take k := ⟨_, rfl⟩
        have hgow : wr.ownsRow w4.heap.size 3 1 u8 k (G.map (.int .i64)) := by
          have h := HR.out
          unfold NumRow at h
          rw [show (L.take k).length = k by rw [List.length_take]; omega] at h
          rw [hG]; exact h
        have HGO := Lib.hid hgow
        have HGE := Lib.hid hG
        have hLl : L.length ≤ 10 := hLn
        clear hLk hxn hxp hG hgow
        go_wp2_with (at_builtin; refine wpList_append_row _ rfl (.tmp 33) (.tmp 38) 30 rfl w4.heap.size 3 iN (.int .i64 0) 1 8 Try.underlying30 HIN.out.1 HIN.out.2.1 HIN.out.2.2.1 HIN.out.2.2.2 rfl (by decide) _ k (G.map (.int .i64)) rfl (World.ownsRow.alloc HGO.out _) ⟨wr.heap.size, 0, none⟩ 1 1 [.int .i64 (xn : Int)] rfl rfl ?d1 ?d2 (by decide) ?d3 ?d4 ?d5 ?_)
        case d1 => exact news1 _ _ _
        case d2 => simp [Value.oneCell']
        case d3 => rw [HML.out]; omega
        case d4 => omega
        case d5 => simp; omega
        intro v2 w5 hown hgr hnew
        have hr5 : NumRow w5 w4.heap.size v2 (L.take (k + 1)) := by
          unfold NumRow
          rw [show (L.take (k + 1)).length = k + 1 by rw [List.length_take]; omega, List.take_succ_eq_append_getElem hlt, List.map_append, ← HGE.out, HXN.out]
          exact hown
        have hge := own_ge HGO.out
        have hb5 : Below w4.heap.size w4 w5 := (HB.out.alloc hwr _).trans (below_grown hgr (by simp; omega) hge)
        have H5 := Lib.hid (And.intro hr5 hb5)
        clear hown hgr hnew hr5 hge hb5 hx e0
        go_wp2_with fail
        go_roundw
        case rel => exact ⟨k + 1, by omega, by go_num, H5.out.1, H5.out.2⟩
        case measure => simp [intOf]; omega
      · have hr6 : NumRow wr w.heap.size u8 L := by
          have h := HR.out
          rw [List.take_of_length_le (by omega)] at h
          exact ownsRow_low h (by omega)
        have hb6 : Below w.heap.size w wr := H4.out.2.2.1.trans (HB.out.mono (by omega))
        have H6 := Lib.hid (And.intro hr6 hb6)
        obtain ⟨a6, c6, rfl, _⟩ := ElRow.at (f := Value.int .i64) (e := 3) hr6
        clear hr6 hb6
        rcases HOR.out with ⟨rfl, hno⟩ | ⟨hne, hyes, hLc⟩
        · have HNO := Lib.hid hno
          clear hno hlt
          go_wp2_with fail
          go_ret2
          exact CoPost.no HNO.out H6.out.2 H6.out.1
        · have HY := Lib.hid (And.intro hyes hLc)
          have hlp2 : 0 < L.length := List.length_pos_iff.2 hne
          have hlp : decide ((0 : Int) < (L.length : Int)) = true := decide_eq_true (by omega)
          have hlp3 : decide (0 < L.length) = true := decide_eq_true hlp2
          clear hyes hLc hne
          go_wp2_with fail
          go_ret2
          exact CoPost.yes HY.out.1 H6.out.2 (by rw [← HY.out.2]; exact H6.out.1)
end Go.Proofs.Ytohogojphnlhpaa

/- bounds of what BuildAll and CircleOf answer (pure) -/
namespace Go.Proofs.Ytohogojphnlhpaa

theorem cyc_bd {ch : Int → List Int} {ok : Int → Bool} {P : Int → Prop} (hx : ∀ k j, nxt ch ok k = some j → P j) : ∀ (f : Nat) (U : List Int) (k : Int), (∀ x ∈ U, P x) → P k → (∀ x ∈ cyc ch ok f U k, P x) ∧ (cyc ch ok f U k).length ≤ U.length + f
  | 0, U, k, _, _ => by unfold cyc; simp
  | f + 1, U, k, hU, hk => by
    unfold cyc
    split
    · exact ⟨fun x h => hU x (List.mem_of_mem_drop h), by rw [List.length_drop]; omega⟩
    · split
      · rename_i j hj
        obtain ⟨h1, h2⟩ := cyc_bd hx f (U ++ [k]) j (fun x h => by
          rcases List.mem_append.1 h with h | h
          · exact hU x h
          · rw [List.mem_singleton.1 h]; exact hk) (hx k j hj)
        exact ⟨h1, by rw [List.length_append, List.length_singleton] at h2; omega⟩
      · exact ⟨by simp, by simp⟩

theorem sh_len {s : Sh} (h : s.ok = true) : s.m.length ≤ 10 := by
  unfold Sh.ok at h
  simp only [Bool.and_eq_true, decide_eq_true_eq] at h
  omega

theorem coL_bd (s : Sh) (l : List Int) (key : Int) : (∀ x ∈ coL s l key, 0 ≤ x ∧ x < 10) ∧ (coL s l key).length ≤ 11 := by
  unfold coL
  split
  · rename_i hb
    unfold coB at hb
    rw [Bool.and_eq_true, Bool.and_eq_true, decide_eq_true_eq] at hb
    obtain ⟨⟨hin, hk⟩, _⟩ := hb
    obtain ⟨hok, _, _⟩ := inOk_of hin
    have hn := sh_len hok
    have hg := gr_S hok l
    have hP : ∀ j, okS s l j = false → 0 ≤ j ∧ j < 10 := by
      intro j hj
      have hd : (fun k => !s.mdI k) j = false := by
        cases hd : (fun k => !s.mdI k) j
        · rfl
        · rw [hg.d0ok j hd] at hj; cases hj
      have := hg.inn j hd
      omega
    obtain ⟨h1, h2⟩ := cyc_bd (ch := chS s l) (ok := okS s l) (P := fun j => 0 ≤ j ∧ j < 10) (fun k j hj => hP j (nxt_some hj).2) (s.m.length + 1 - 0) [] key (by simp) (by omega)
    unfold circ
    exact ⟨h1, by simpa using Nat.le_trans h2 (by simp; omega)⟩
  · exact ⟨by simp, by simp⟩

theorem baL_bd (s : Sh) (l : List Int) : (∀ x ∈ baL s l, 0 ≤ x ∧ x ≤ 96) ∧ (baL s l).length ≤ 10 := by
  unfold baL
  split
  · rename_i hb
    unfold baB at hb
    rw [Bool.and_eq_true] at hb
    obtain ⟨hin, _⟩ := hb
    have hn := sh_len (inOk_of hin).1
    unfold baVs
    refine ⟨fun x hx => ?_, by simpa using hn⟩
    obtain ⟨i, _, rfl⟩ := List.mem_map.1 hx
    exact vsS_bd hin _
  · exact ⟨by simp, by simp⟩
end Go.Proofs.Ytohogojphnlhpaa

/- what CircleOf answers is a circle (pure) -/
namespace Go.Proofs.Ytohogojphnlhpaa

/-- Each one is fetched by the one ahead of it, the first by the last. -/
def Ring (nx : Int → Option Int) (R : List Int) : Prop := R ≠ [] ∧ ∀ i (h : i < R.length), nx R[i] = R[(i + 1) % R.length]?

theorem cyc_ring {ch : Int → List Int} {ok : Int → Bool} {n : Nat} (hx : ∀ k, ok k = false → ∃ j, nxt ch ok k = some j) (hin : ∀ k, ok k = false → 0 ≤ k ∧ k < n) :
    ∀ (f : Nat) (U : List Int) (k : Int), U.length + f = n + 1 → U.Nodup → (∀ x ∈ U, ok x = false) → ok k = false → (∀ i (h : i < U.length), nxt ch ok U[i] = (U ++ [k])[i + 1]?) → Ring (nxt ch ok) (cyc ch ok f U k) ∧ ∀ x ∈ cyc ch ok f U k, ok x = false
  | 0, U, k, hl, hnd, hU, _, _ => by
    have := nodup_bound n U hnd (fun x hx => hin x (hU x hx))
    omega
  | f + 1, U, k, hl, hnd, hU, hk, hc => by
    unfold cyc
    split
    · rename_i hm
      have hi := List.idxOf_lt_length_of_mem hm
      have hg : U[U.idxOf k] = k := List.getElem_idxOf hi
      have hlen : (U.drop (U.idxOf k)).length = U.length - U.idxOf k := by simp
      refine ⟨⟨fun e => by rw [e] at hlen; simp at hlen; omega, fun i h => ?_⟩, fun x hx => hU x (List.mem_of_mem_drop hx)⟩
      rw [hlen] at h ⊢
      rw [List.getElem_drop, hc _ (by omega), List.getElem?_drop]
      by_cases hlast : i + 1 < U.length - U.idxOf k
      · rw [Nat.mod_eq_of_lt hlast, List.getElem?_append_left (by omega)]
        congr 1
      · have e : i + 1 = U.length - U.idxOf k := by omega
        have e2 : U[U.idxOf k + 0]? = some k := by rw [Nat.add_zero, List.getElem?_eq_getElem hi, hg]
        rw [e, Nat.mod_self, List.getElem?_append_right (by omega), e2]
        rw [show U.idxOf k + i + 1 - U.length = 0 by omega]
        rfl
    · rename_i hm
      obtain ⟨j, hj⟩ := hx k hk
      rw [hj]
      have hjk := (nxt_some hj).2
      refine cyc_ring hx hin f (U ++ [k]) j (by simp; omega) ?_ ?_ hjk ?_
      · rw [List.nodup_append]
        refine ⟨hnd, by simp, fun a ha b hb => ?_⟩
        rw [List.mem_singleton] at hb
        subst hb
        rintro rfl
        exact hm ha
      · intro x hx
        rcases List.mem_append.1 hx with hx | hx
        · exact hU x hx
        · rw [List.mem_singleton.1 hx]; exact hk
      · intro i h
        rw [List.length_append, List.length_singleton] at h
        by_cases hi : i < U.length
        · rw [List.getElem_append_left hi, hc i hi]
          exact (List.getElem?_append_left (by simp only [List.length_append, List.length_singleton]; omega)).symm
        · obtain rfl : i = U.length := by omega
          rw [List.getElem_append_right (by omega)]
          simp [hj]

/-- CircleOf's answer: if there is one, it is not empty; each key of it is made, and the next one is in its TaskMay. -/
theorem coL_ring {s : Sh} {l : List Int} {key : Int} (h : coB s l key = true) : coL s l key ≠ [] ∧ ∀ i (hi : i < (coL s l key).length), s.mdI (coL s l key)[i] = true ∧ ∃ y, (coL s l key)[(i + 1) % (coL s l key).length]? = some y ∧ (s.tkI (coL s l key)[i]).may y = true ∧ 0 ≤ y ∧ y ≤ 9 := by
  have hb := h
  unfold coB at hb
  rw [Bool.and_eq_true, Bool.and_eq_true, decide_eq_true_eq] at hb
  obtain ⟨⟨hin, hkey⟩, hno⟩ := hb
  obtain ⟨hok, _, _⟩ := inOk_of hin
  have hg := gr_S hok l
  have hno' : okS s l key = false := by simpa using hno
  have hfd : ∀ k, okS s l k = false → s.mdI k = true := fun k hk => by
    cases hm : s.mdI k
    · rw [hg.d0ok k (by simp [hm])] at hk; cases hk
    · rfl
  have hx : ∀ k, okS s l k = false → ∃ j, nxt (chS s l) (okS s l) k = some j := fun k hk => by
    cases hn : nxt (chS s l) (okS s l) k with
    | some j => exact ⟨j, rfl⟩
    | none => rw [hg.up k (nxt_none hn)] at hk; cases hk
  have hr := cyc_ring hx (fun k hk => mdI_bd (hfd k hk)) (s.m.length + 1) [] key (by simp) (by simp) (by simp) hno' (by simp)
  have e : coL s l key = cyc (chS s l) (okS s l) (s.m.length + 1) [] key := by unfold coL; rw [if_pos h]; rfl
  rw [e]
  refine ⟨hr.1.1, fun i hi => ⟨hfd _ (hr.2 _ (List.getElem_mem hi)), ?_⟩⟩
  have h1 := hr.1.2 i hi
  obtain ⟨y, hy⟩ := hx _ (hr.2 _ (List.getElem_mem hi))
  rw [hy] at h1
  have hf := tkI_fit hok (cyc (chS s l) (okS s l) (s.m.length + 1) [] key)[i]
  exact ⟨y, h1.symm, kys_may _ _ hf y (nxt_some hy).1, (T.kys_bd _ _ hf).1 y (nxt_some hy).1⟩
end Go.Proofs.Ytohogojphnlhpaa

/- impl.TaskFetches, spec.TaskFetches -/
namespace Go.Proofs.Ytohogojphnlhpaa
open Go.RowKit

end Go.Proofs.Ytohogojphnlhpaa

/- what was fetched, as a list that is read; impl.TaskSame -/
namespace Go.Proofs.Ytohogojphnlhpaa
open Go.RowKit

/-- The slice value '.slice a ks.length c' holds what was fetched of the keys ks. -/
def FetAt (vs : Int → Int) (w : World) (S : Nat → Prop) (ks : List Int) (a : Option Addr) (c : Nat) : Prop :=
  ks.length ≤ c ∧ c ≤ 9223372036854775807 ∧ (ks = [] ∨ ∃ b o, a = some ⟨b, o, none⟩ ∧ S b ∧ ∀ i (h : i < ks.length), w.cell? ⟨b, o + i * 2, none⟩ = some (.int .i64 ks[i]) ∧ w.cell? ⟨b, o + i * 2 + 1, none⟩ = some (.int .i64 (vs ks[i])))

section
variable {vs : Int → Int} {w w' : World} {S S' : Nat → Prop} {ks : List Int} {a : Option Addr} {c : Nat}
theorem FetAt.keep (hS : ∀ b, S b → S' b) (hk : ∀ b, S b → b < w.heap.size → w'.heap[b]? = w.heap[b]?) (h : FetAt vs w S ks a c) : FetAt vs w' S' ks a c := by
  obtain ⟨h1, h2, h4⟩ := h
  refine ⟨h1, h2, ?_⟩
  rcases h4 with h4 | ⟨b, o, ha, hb, hc⟩
  · exact .inl h4
  · refine .inr ⟨b, o, ha, hS b hb, fun i hi => ?_⟩
    have := hc i hi
    have e := hk b hb (cell_lt this.1)
    exact ⟨(World.cell?_of_block (w := w) (a := ⟨b, o + i * 2, none⟩) e).trans this.1, (World.cell?_of_block (w := w) (a := ⟨b, o + i * 2 + 1, none⟩) e).trans this.2⟩
theorem FetAt.below (h : FetAt vs w S ks a c) (hb : Below w.heap.size w w') : FetAt vs w' S ks a c := h.keep (fun _ h => h) (fun b _ hl => hb.block b hl)
theorem FetAt.get (h : FetAt vs w S ks a c) (hb : Below w.heap.size w w') {i : Nat} (hi : i < ks.length) :
    ∃ b o, a = some ⟨b, o, none⟩ ∧ b < w.heap.size ∧ S b ∧ w'.cell? ⟨b, o + i * 2, none⟩ = some (.int .i64 ks[i]) ∧ w'.cell? ⟨b, o + i * 2 + 1, none⟩ = some (.int .i64 (vs ks[i])) := by
  rcases h.2.2 with rfl | ⟨b, o, ha, hS, hc⟩
  · simp at hi
  · have := hc i hi
    have hlt := cell_lt this.1
    exact ⟨b, o, ha, hlt, hS, (hb.cell (p := ⟨b, o + i * 2, none⟩) hlt).trans this.1, (hb.cell (p := ⟨b, o + i * 2 + 1, none⟩) hlt).trans this.2⟩
end

theorem fc_get (vs : Int → Int) : ∀ (l : List Int) (i : Nat) (h : i < l.length), (fc vs l)[i * 2]? = some (.int .i64 l[i]) ∧ (fc vs l)[i * 2 + 1]? = some (.int .i64 (vs l[i]))
  | [], i, h => by simp at h
  | k :: r, 0, h => by simp [fc]
  | k :: r, i + 1, h => by
    have := fc_get vs r i (by simpa using h)
    rw [show (i + 1) * 2 = i * 2 + 2 by omega]
    simpa [fc] using this

/-- The two lists of values agree in these keys. -/
def agree (x y : List Int) (ks : List Int) : Bool := ks.all fun k => decide (vf y k = vf x k)
def tSame (t : T) (x y : List Int) : Bool := (t.ok && vok x) && (vok y && agree x y (t.kys (vf x)))

end Go.Proofs.Ytohogojphnlhpaa

/- spec.l2Has, spec.l2Uses, spec.TaskUses, spec.TaskSame -/
namespace Go.Proofs.Ytohogojphnlhpaa
open Go.RowKit

theorem mem_take_succ {l : List Int} {k : Nat} (h : k < l.length) (n : Int) : n ∈ l.take (k + 1) ↔ n ∈ l.take k ∨ n = l[k] := by
  rw [List.take_succ_eq_append_getElem h, List.mem_append, List.mem_singleton]

/-- Each key once, in the order in which they come first. -/
def ustep (acc : List Int) (k : Int) : List Int := if k ∈ acc then acc else acc ++ [k]
def usesL (ks : List Int) : List Int := ks.foldl ustep []
theorem usesL_snoc {ks : List Int} {k : Nat} (h : k < ks.length) : usesL (ks.take (k + 1)) = ustep (usesL (ks.take k)) ks[k] := by
  unfold usesL
  rw [List.take_succ_eq_append_getElem h, List.foldl_append]
  rfl
theorem ustep_mem {acc : List Int} {k x : Int} : x ∈ ustep acc k ↔ x ∈ acc ∨ x = k := by
  unfold ustep
  split
  · rename_i h
    constructor
    · exact .inl
    · rintro (h' | rfl)
      · exact h'
      · exact h
  · simp
theorem foldl_ustep_mem : ∀ (ks acc : List Int) (x : Int), x ∈ ks.foldl ustep acc ↔ x ∈ acc ∨ x ∈ ks
  | [], acc, x => by simp
  | k :: r, acc, x => by
    rw [List.foldl_cons, foldl_ustep_mem r, ustep_mem, List.mem_cons]
    constructor
    · rintro ((h | h) | h)
      · exact .inl h
      · exact .inr (.inl h)
      · exact .inr (.inr h)
    · rintro (h | h | h)
      · exact .inl (.inl h)
      · exact .inl (.inr h)
      · exact .inr h
theorem usesL_mem {ks : List Int} {x : Int} : x ∈ usesL ks ↔ x ∈ ks := by unfold usesL; rw [foldl_ustep_mem]; simp
theorem foldl_ustep_len : ∀ (ks acc : List Int), (ks.foldl ustep acc).length ≤ acc.length + ks.length
  | [], acc => by simp
  | k :: r, acc => by
    have := foldl_ustep_len r (ustep acc k)
    have h2 : (ustep acc k).length ≤ acc.length + 1 := by unfold ustep; split <;> simp
    simp only [List.foldl_cons, List.length_cons]
    omega
theorem usesL_len (ks : List Int) : (usesL ks).length ≤ ks.length := by have := foldl_ustep_len ks []; simpa [usesL] using this

def UsesPost (ks : List Int) (w : World) (e : Ending) (w' : World) : Prop := ∃ v, e = .returned v ∧ NumRow w' w.heap.size v (usesL ks) ∧ Below w.heap.size w w'

/-- What TaskUses leaves. -/
def UsPost (t : T) (lv : List Int) (w : World) (e : Ending) (w' : World) : Prop :=
  Below w.heap.size w w' ∧ ∃ v, e = .returned (.tuple #[v, .bool (t.ok && vok lv)]) ∧ NumRow w' w.heap.size v (if (t.ok && vok lv) = true then usesL (t.kys (vf lv)) else [])

theorem kys_ok {t : T} {lv : List Int} (h : (t.ok && vok lv) = true) : (∀ k ∈ t.kys (vf lv), 0 ≤ k ∧ k ≤ 9) ∧ (t.kys (vf lv)).length ≤ 15 := by
  simp only [Bool.and_eq_true] at h
  have hfn : t.fit = true ∧ t.nodes ≤ 15 := by simpa [T.ok] using h.1
  have := T.kys_bd (vf lv) t hfn.1
  exact ⟨this.1, by omega⟩

theorem agree_uses (x y : List Int) (ks : List Int) : agree x y (usesL ks) = agree x y ks := by
  unfold agree
  rw [Bool.eq_iff_iff, List.all_eq_true, List.all_eq_true]
  exact ⟨fun h k hk => h k (usesL_mem.2 hk), fun h k hk => h k (usesL_mem.1 hk)⟩
end Go.Proofs.Ytohogojphnlhpaa

/- slices.Contains at numbers; impl.TaskUses -/
namespace Go.Proofs.Ytohogojphnlhpaa
open Go.RowKit

def IndexPost (l : List Int) (n : Int) (w : World) (e : Ending) (w' : World) : Prop := ∃ r : Int, e = .returned (.int .i64 r) ∧ decide (0 ≤ r) = decide (n ∈ l) ∧ w = w'

end Go.Proofs.Ytohogojphnlhpaa

/- spec.TaskFixed, impl.TaskFixed -/
namespace Go.Proofs.Ytohogojphnlhpaa
open Go.RowKit

mutual
def T.fixed : T → Bool | .mk k _ ps => (decide (k ≠ 4) && decide (k ≠ 5)) && fixedL ps
def fixedL : List T → Bool | [] => true | t :: r => t.fixed && fixedL r
end
theorem fixedL_append : ∀ ps qs : List T, fixedL (ps ++ qs) = (fixedL ps && fixedL qs)
  | [], qs => by simp [fixedL]
  | t :: r, qs => by simp only [fixedL, List.cons_append, fixedL_append r qs, Bool.and_assoc]
theorem fixedL_snoc (ps : List T) (i : Nat) (h : i < ps.length) : fixedL (ps.take (i + 1)) = (fixedL (ps.take i) && ps[i].fixed) := by
  rw [List.take_succ_eq_append_getElem h, fixedL_append]; simp [fixedL]
theorem fixedL_false (ps : List T) (i : Nat) (h : i < ps.length) (hf : ps[i].fixed = false) : fixedL ps = false := by
  have h1 := fixedL_snoc ps i h
  have h2 := fixedL_append (ps.take (i + 1)) (ps.drop (i + 1))
  rw [List.take_append_drop] at h2
  rw [h2, h1, hf]; simp
theorem T.fixed_eq (t : T) : t.fixed = ((decide (t.k ≠ 4) && decide (t.k ≠ 5)) && fixedL t.ps) := by cases t; rfl

def SFixT (t : T) : Prop := ∀ (w : World) (S : Nat → Prop) (a : Option Addr) (c : Nat), AtS w S t.ps a c →
  Calls Try.prog 68 #[.agg #[.int .i64 t.k, .int .i64 t.n, .slice a t.ps.length c]] w fun e w' => e = .returned (.bool t.fixed) ∧ Below w.heap.size w w'

set_option maxHeartbeats 400000 in
theorem sfix_of (t : T) (hF : ∀ u ∈ t.ps, SFixT u) : SFixT t := by
  intro w S a c hat
  have K0 := Lib.hid (Kp.start (ty := 39) hat)
  have HF := Lib.hid hF
  have hlen : t.ps.length ≤ 9223372036854775807 := by have := hat.1; have := hat.2.1; omega
  have hfe := T.fixed_eq t
  have HFE := Lib.hid hfe
  have HA := Lib.hid hat
  clear hat hF hfe
  go_enter Try.func68, Try.ntmps68
  go_wp2_with fail
  go_loopw [3] (fun i wr => ∃ k : Nat, k ≤ t.ps.length ∧ i = .int .i64 k ∧ fixedL (t.ps.take k) = true ∧ Kp S t a c 39 w wr) (fun i _ => t.ps.length - (intOf i).toNat)
  case atStart => exact ⟨0, by omega, rfl, by simp [fixedL], K0.out⟩
  case round =>
    obtain ⟨k, hk, rfl, hq, hb⟩ := hrel
    obtain ⟨x0, x1, x2⟩ := hb.box
    have HB := Lib.hid hb
    have HQ := Lib.hid hq
    clear hb hq K0
    by_cases hlt : k < t.ps.length
    · obtain ⟨b, o, a', c', rfl, hbl, _, e0, e1, e2, hs, _, _⟩ := HA.out.elem HB.out.done hlt
      have HS' := Lib.hid hs
      have hsn := fixedL_snoc t.ps k hlt
      rw [HQ.out, Bool.true_and] at hsn
      clear hs
      cases hf : t.ps[k].fixed
      · have hff : t.fixed = false := by rw [HFE.out, fixedL_false t.ps k hlt hf]; simp
        have HF1 := Lib.hid hf
        have HF2 := Lib.hid hff
        clear hf hff hsn
        go_wp2_with fail
        refine (HF.out t.ps[k] (List.getElem_mem _) _ S a' c' HS'.out).mono ?_
        rintro e w1 ⟨rfl, hb⟩
        rw [HF1.out]
        have HB' := Lib.hid (HB.out.step hb)
        clear hb HF1
        go_wp2_with fail
        go_ret
        exact ⟨ret_bool HF2.out.symm, HB'.out.done⟩
      · have HF1 := Lib.hid hf
        rw [hf] at hsn
        have HF2 := Lib.hid hsn
        clear hf hsn
        go_wp2_with fail
        refine (HF.out t.ps[k] (List.getElem_mem _) _ S a' c' HS'.out).mono ?_
        rintro e w1 ⟨rfl, hb⟩
        rw [HF1.out]
        have HB' := Lib.hid (HB.out.step hb)
        clear hb HF1
        go_wp2_with fail
        go_roundw
        case rel => exact ⟨k + 1, by omega, by go_num, HF2.out, HB'.out⟩
        case measure => simp [intOf]; omega
    · have hk' : k = t.ps.length := by omega
      have hf : fixedL t.ps = true := by have := HQ.out; rwa [hk', List.take_of_length_le (Nat.le_refl _)] at this
      have hv : t.fixed = (decide (t.k ≠ 4) && decide (t.k ≠ 5)) := by rw [HFE.out, hf]; simp
      have HV := Lib.hid hv
      clear hf hk' hv
      by_cases h4 : t.k = 4
      · have h4b : (t.k != 4) = false := by simp [h4]
        have H4 := Lib.hid h4
        clear h4
        go_wp2_with fail
        go_ret
        exact ⟨ret_bool (by rw [HV.out, H4.out]; rfl), HB.out.done⟩
      · have h4b : (t.k != 4) = true := by simpa using h4
        by_cases h5 : t.k = 5
        · have h5b : (t.k != 5) = false := by simp [h5]
          have H5 := Lib.hid h5
          clear h4 h5
          go_wp2_with fail
          go_ret
          exact ⟨ret_bool (by rw [HV.out, H5.out]; rfl), HB.out.done⟩
        · have h5b : (t.k != 5) = true := by simpa using h5
          have HX := Lib.hid (And.intro h4 h5)
          clear h4 h5
          go_wp2_with fail
          go_ret
          exact ⟨ret_bool (by rw [HV.out]; simp [HX.out]), HB.out.done⟩
theorem sfix_all : ∀ t, SFixT t := T.ind fun k n ps ih => sfix_of (.mk k n ps) ih

def IFixT (t : T) : Prop := ∀ (w : World) (S : Nat → Prop) (a : Option Addr) (c : Nat), AtS w S t.ps a c →
  Calls Try.prog 69 #[.agg #[.int .i64 t.k, .int .i64 t.n, .slice a t.ps.length c]] w fun e w' => e = .returned (.bool t.fixed) ∧ Below w.heap.size w w'

set_option maxHeartbeats 400000 in
theorem ifix_of (t : T) (hF : ∀ u ∈ t.ps, IFixT u) : IFixT t := by
  intro w S a c hat
  have K0 := Lib.hid (Kp.start (ty := 39) hat)
  have HF := Lib.hid hF
  have hlen : t.ps.length ≤ 9223372036854775807 := by have := hat.1; have := hat.2.1; omega
  have hfe := T.fixed_eq t
  have HFE := Lib.hid hfe
  have HA := Lib.hid hat
  clear hat hF hfe
  by_cases h4 : t.k = 4
  · have h4b : (t.k == 4) = true := by simp [h4]
    have H4 := Lib.hid h4
    clear h4
    go_enter Try.func69, Try.ntmps69
    go_wp2_with fail
    go_ret
    exact ⟨ret_bool (by rw [HFE.out, H4.out]; rfl), K0.out.done⟩
  by_cases h5 : t.k = 5
  · have h4b : (t.k == 4) = false := by simpa using h4
    have h5b : (t.k == 5) = true := by simp [h5]
    have H5 := Lib.hid h5
    clear h4 h5
    go_enter Try.func69, Try.ntmps69
    go_wp2_with fail
    go_ret
    exact ⟨ret_bool (by rw [HFE.out, H5.out]; rfl), K0.out.done⟩
  have h4b : (t.k == 4) = false := by simpa using h4
  have h5b : (t.k == 5) = false := by simpa using h5
  have hv : t.fixed = fixedL t.ps := by rw [HFE.out]; simp [h4, h5]
  have HV := Lib.hid hv
  clear h4 h5 hv
  go_enter Try.func69, Try.ntmps69
  go_wp2_with fail
  clear h4b h5b
  go_loopw [16] (fun i wr => ∃ k : Nat, k ≤ t.ps.length ∧ i = .int .i64 k ∧ fixedL (t.ps.take k) = true ∧ Kp S t a c 39 w wr) (fun i _ => t.ps.length - (intOf i).toNat)
  case atStart => exact ⟨0, by omega, rfl, by simp [fixedL], K0.out⟩
  case round =>
    obtain ⟨k, hk, rfl, hq, hb⟩ := hrel
    have HB := Lib.hid hb
    have HQ := Lib.hid hq
    clear hb hq K0
    by_cases hlt : k < t.ps.length
    · obtain ⟨b, o, a', c', rfl, hbl, _, e0, e1, e2, hs, _, _⟩ := HA.out.elem HB.out.done hlt
      have hblt : b < wr.heap.size := cell_lt e0
      have HS' := Lib.hid hs
      have hsn := fixedL_snoc t.ps k hlt
      rw [HQ.out, Bool.true_and] at hsn
      clear hs
      cases hf : t.ps[k].fixed
      · have hff : t.fixed = false := by rw [HV.out, fixedL_false t.ps k hlt hf]
        have HF1 := Lib.hid hf
        have HF2 := Lib.hid hff
        clear hf hff hsn
        go_wp2_with fail
        refine (HF.out t.ps[k] (List.getElem_mem _) _ S a' c' (HS'.out.alloc _)).mono ?_
        rintro e w1 ⟨rfl, hb⟩
        rw [HF1.out]
        have HB' := Lib.hid ((HB.out.alloc _).step hb)
        clear hb HF1
        go_wp2_with fail
        go_ret
        exact ⟨ret_bool HF2.out.symm, HB'.out.done⟩
      · have HF1 := Lib.hid hf
        rw [hf] at hsn
        have HF2 := Lib.hid hsn
        clear hf hsn
        go_wp2_with fail
        refine (HF.out t.ps[k] (List.getElem_mem _) _ S a' c' (HS'.out.alloc _)).mono ?_
        rintro e w1 ⟨rfl, hb⟩
        rw [HF1.out]
        have HB' := Lib.hid ((HB.out.alloc _).step hb)
        clear hb HF1
        go_wp2_with fail
        go_roundw
        case rel => exact ⟨k + 1, by omega, by go_num, HF2.out, HB'.out⟩
        case measure => simp [intOf]; omega
    · have hk' : k = t.ps.length := by omega
      have hf : t.fixed = true := by have := HQ.out; rw [hk', List.take_of_length_le (Nat.le_refl _)] at this; rw [HV.out, this]
      have HF2 := Lib.hid hf
      clear hf hk'
      go_wp2_with fail
      go_ret
      exact ⟨ret_bool HF2.out.symm, HB.out.done⟩
theorem ifix_all : ∀ t, IFixT t := T.ind fun k n ps ih => ifix_of (.mk k n ps) ih

def T.fix (t : T) : Bool := t.ok && t.fixed

/-- impl.TaskFixed -/
theorem implFixed_any (t : T) (w : World) (S : Nat → Prop) (a : Option Addr) (c : Nat) (hat : AtS w S t.ps a c) :
    Calls Try.prog 32 #[.agg #[.int .i64 t.k, .int .i64 t.n, .slice a t.ps.length c]] w fun e w' => e = .returned (.bool t.fix) ∧ Below w.heap.size w w' := by
  have K0 := Lib.hid (Kp.start (ty := 39) hat)
  clear hat
  cases hf : t.ok
  · have hv : t.fix = false := by simp [T.fix, hf]
    have HF := Lib.hid hf
    have HV := Lib.hid hv
    clear hf hv
    go_enter Try.func32, Try.ntmps32
    go_wp2_with fail
    refine (implOk_any t _ S a c K0.out.2).mono ?_
    rintro e w1 ⟨rfl, hb⟩
    rw [HF.out]
    have K1 := Lib.hid (K0.out.step hb)
    clear hb
    go_wp2_with fail
    go_ret
    exact ⟨ret_bool HV.out.symm, K1.out.done⟩
  · have hv : t.fix = t.fixed := by simp [T.fix, hf]
    have HF := Lib.hid hf
    have HV := Lib.hid hv
    clear hf hv
    go_enter Try.func32, Try.ntmps32
    go_wp2_with fail
    refine (implOk_any t _ S a c K0.out.2).mono ?_
    rintro e w1 ⟨rfl, hb⟩
    rw [HF.out]
    have K1 := Lib.hid (K0.out.step hb)
    obtain ⟨x0, x1, x2⟩ := K1.out.box
    clear hb
    go_wp2_with fail
    refine (ifix_all t _ S a c K1.out.2).mono ?_
    rintro e w2 ⟨rfl, hb⟩
    have K2 := Lib.hid (K1.out.step hb)
    clear hb
    go_wp2_with fail
    go_ret
    exact ⟨ret_bool HV.out.symm, K2.out.done⟩

end Go.Proofs.Ytohogojphnlhpaa

/- brInts -/
namespace Go.Proofs.Ytohogojphnlhpaa
open Go.RowKit

/-- brInts of two readings of one list -/
theorem brInts_any (w : World) (S S' : Nat → Prop) (l : List Int) (a a' : Option Addr) (c c' : Nat) (h : IntsAt w S l a c) (h' : IntsAt w S' l a' c') :
    Calls Try.prog 23 #[.slice a l.length c, .slice a' l.length c'] w fun e w' => e = .returned (.bool true) ∧ Below w.heap.size w w' := by
  have hlen : l.length ≤ 9223372036854775807 := by have := h.1; have := h.2.1; omega
  have H := Lib.hid h
  have H' := Lib.hid h'
  clear h h'
  have hne : (((l.length : Nat) : Int) != ((l.length : Nat) : Int)) = false := by simp
  go_enter Try.func23, Try.ntmps23
  go_wp2_with fail
  clear hne
  go_loopw [5] (fun i wr => ∃ k : Nat, k ≤ l.length ∧ i = .int .i64 k ∧ Below w.heap.size w wr) (fun i _ => l.length - (intOf i).toNat)
  case atStart => exact ⟨0, by omega, rfl, Below.refl _ _⟩
  case round =>
    obtain ⟨k, hk, rfl, hb⟩ := hrel
    have HB := Lib.hid hb
    clear hb
    by_cases hlt : k < l.length
    · obtain ⟨b, o, rfl, hbl, _, hc⟩ := H.out.get HB.out hlt
      obtain ⟨b', o', rfl, hbl', _, hc'⟩ := H'.out.get HB.out hlt
      have hne : (l[k] != l[k]) = false := by simp
      obtain ⟨v, hv⟩ : ∃ v, v = l[k] := ⟨_, rfl⟩
      rw [← hv] at hc hc' hne
      clear hv
      go_wp2_with fail
      go_quiet (fail)
      go_wp2_with fail
      go_roundw
      case rel => exact ⟨k + 1, by omega, by go_num, below_drewN HB.out _⟩
      case measure => simp [intOf]; omega
    · go_wp2_with fail
      go_ret
      exact ⟨rfl, HB.out⟩
end Go.Proofs.Ytohogojphnlhpaa

/- brInts; a fixed task fetches the same whatever values are; the walk of laws.FnTaskFixed -/
namespace Go.Proofs.Ytohogojphnlhpaa
open Go.RowKit

theorem kys_fixed (vs vs' : Int → Int) : ∀ t : T, t.fit = true → t.fixed = true → t.kys vs = t.kys vs' := T.ind fun k n ps ih hf => by
  generalize ht : T.mk k n ps = t at hf ⊢
  refine T.cases_fit (P := fun t => t.fixed = true → t.kys vs = t.kys vs') t hf ?_ ?_ ?_ ?_ ?_ ?_
  · rintro n a0 a1 rfl _; simp only [kys_0]
  · rintro n a0 a1 rfl h; simp only [kys_1]
  · rintro a b ha hb rfl h; injection ht with _ _ hps; subst hps
    simp [T.fixed, fixedL] at h
    simp only [kys_2, ih a (by simp) ha h.1, ih b (by simp) hb h.2]
  · rintro a b ha hb rfl h; injection ht with _ _ hps; subst hps
    simp [T.fixed, fixedL] at h
    simp only [kys_3, ih a (by simp) ha h.1, ih b (by simp) hb h.2]
  · rintro a b c ha hb hc rfl h; simp [T.fixed] at h
  · rintro n a a0 a1 ha rfl h; simp [T.fixed] at h

theorem fives (w : World) : IntsAt (w.alloc (.cells #[.int .i64 5, .int .i64 5, .int .i64 5, .int .i64 5, .int .i64 5, .int .i64 5, .int .i64 5, .int .i64 5, .int .i64 5, .int .i64 5] 3)) (fun b => b = w.heap.size) [5, 5, 5, 5, 5, 5, 5, 5, 5, 5] (some ⟨w.heap.size, 0, none⟩) 10 := by
  refine ⟨by decide, by decide, by simp [i64ok], .inr ⟨w.heap.size, 0, rfl, rfl, fun i hi => ?_⟩⟩
  rw [World.cell?_alloc_new]
  have hi' : i < 10 := hi
  rcases (show i = 0 ∨ i = 1 ∨ i = 2 ∨ i = 3 ∨ i = 4 ∨ i = 5 ∨ i = 6 ∨ i = 7 ∨ i = 8 ∨ i = 9 by omega) with rfl | rfl | rfl | rfl | rfl | rfl | rfl | rfl | rfl | rfl <;> rfl

end Go.Proofs.Ytohogojphnlhpaa

/- brHas, brAll; the walk of laws.FnTaskMay -/
namespace Go.Proofs.Ytohogojphnlhpaa
open Go.RowKit

/-- brHas -/
theorem brHas_any (w : World) (S : Nat → Prop) (l : List Int) (a : Option Addr) (c : Nat) (n : Int) (h : IntsAt w S l a c) :
    Calls Try.prog 27 #[.slice a l.length c, .int .i64 n] w fun e w' => e = .returned (.bool (decide (n ∈ l))) ∧ w = w' := by
  have hlen : l.length ≤ 9223372036854775807 := by have := h.1; have := h.2.1; omega
  have H := Lib.hid h
  obtain ⟨r, hr⟩ : ∃ r, r = decide (n ∈ l) := ⟨_, rfl⟩
  have HR := Lib.hid hr
  rw [← hr]
  clear h hr
  go_enter Try.func27, Try.ntmps27
  go_wp2_with fail
  go_loop [5] (fun i => ∃ k : Nat, k ≤ l.length ∧ i = .int .i64 k ∧ ¬ n ∈ l.take k) (fun i => l.length - (intOf i).toNat)
  case atStart => exact ⟨0, by omega, rfl, by simp⟩
  case round =>
    obtain ⟨k, hk, rfl, hq⟩ := hrel
    have HQ := Lib.hid hq
    clear hq
    by_cases hlt : k < l.length
    · obtain ⟨b, o, rfl, hbl, _, hc⟩ := H.out.get (Below.refl _ _) hlt
      have HM := Lib.hid (mem_take_succ hlt n)
      have HE := Lib.hid (List.getElem_mem hlt)
      obtain ⟨v, hv⟩ : ∃ v, v = l[k] := ⟨_, rfl⟩
      rw [← hv] at hc
      have HVV := Lib.hid hv
      clear hv
      by_cases hvn : v = n
      · have hd : (v == n) = true := by simpa using hvn
        have hrt : r = true := by rw [HR.out, decide_eq_true_eq, ← hvn, HVV.out]; exact HE.out
        have HRT := Lib.hid hrt
        clear hrt hvn
        go_wp2_with fail
        go_ret
        exact ⟨ret_bool HRT.out.symm, rfl⟩
      · have hd : (v == n) = false := by simpa using hvn
        have HVN := Lib.hid hvn
        clear hvn
        go_wp2_with fail
        go_round
        case rel => exact ⟨k + 1, by omega, by go_num, fun h => by
          rcases HM.out.1 h with h | h
          · exact HQ.out h
          · exact HVN.out (by rw [HVV.out, h])⟩
        case measure => simp [intOf]; omega
    · have hrf : r = false := by
        have := HQ.out
        rw [List.take_of_length_le (by omega)] at this
        rw [HR.out]; exact decide_eq_false this
      have HRF := Lib.hid hrf
      clear hrf
      go_wp2_with fail
      go_ret
      exact ⟨ret_bool HRF.out.symm, rfl⟩

theorem mayL_get {q : Int} {ps : List T} {i : Nat} (h : i < ps.length) (hm : ps[i].may q = true) : mayL q ps = true := by
  have h1 := mayL_snoc q ps i h
  have h2 := mayL_append q (ps.take (i + 1)) (ps.drop (i + 1))
  rw [List.take_append_drop] at h2
  rw [h2, h1, hm]; simp
theorem mayO_mem {t : T} {q : Int} (h : t.ok = true) : q ∈ mayO t ↔ 0 ≤ q ∧ q < 10 ∧ t.may q = true := by
  unfold mayO
  rw [if_pos h, mayI_mem]
  exact Iff.rfl
theorem ok_part {t : T} (h : t.ok = true) {i : Nat} (hi : i < t.ps.length) : t.ps[i].ok = true := by
  simp only [T.ok, Bool.and_eq_true, decide_eq_true_eq] at h ⊢
  obtain ⟨h1, h2⟩ := h
  rw [T.fit_eq] at h1
  simp only [Bool.and_eq_true] at h1
  refine ⟨?_, ?_⟩
  · cases hf : t.ps[i].fit
    · have := fitL_false t.ps i hi hf; rw [h1.2] at this; cases this
    · rfl
  · have := T.nodes_le hi; have := t.nodes_eq; omega
theorem mayO_part {t : T} (h : t.ok = true) {i : Nat} (hi : i < t.ps.length) : ∀ x ∈ mayO t.ps[i], x ∈ mayO t := by
  intro x hx
  rw [mayO_mem (ok_part h hi)] at hx
  rw [mayO_mem h, T.may_eq]
  exact ⟨hx.1, hx.2.1, by rw [mayL_get hi hx.2.2]; simp⟩
theorem mayO_bd (t : T) : (∀ x ∈ mayO t, 0 ≤ x ∧ x < 10) ∧ (mayO t).length ≤ 10 := by
  unfold mayO
  split
  · exact ⟨fun x hx => by have := mayI_mem.1 hx; omega, mayI_len t 10⟩
  · simp
theorem mayO_asc (t : T) (i : Nat) (h : i + 1 < (mayO t).length) : (mayO t)[i] < (mayO t)[i + 1] := by
  have hp : (mayO t).Pairwise (· < ·) := by
    unfold mayO
    split
    · unfold mayI
      rw [List.pairwise_map]
      refine List.Pairwise.imp (R := fun a b : Nat => a < b) (fun h => by omega) ?_
      exact List.Pairwise.filter _ List.pairwise_lt_range
    · exact List.Pairwise.nil
  exact List.pairwise_iff_getElem.1 hp i (i + 1) (by omega) h (by omega)

end Go.Proofs.Ytohogojphnlhpaa

/- the walk of laws.FnCircleOf -/
namespace Go.Proofs.Ytohogojphnlhpaa
open Go.RowKit


theorem co_no {s : Sh} {l : List Int} {key : Int} (h : coB s l key = true) : bkOk s l key = false := by
  unfold coB at h
  simp only [Bool.and_eq_true, Bool.not_eq_true'] at h
  unfold bkOk
  rw [h.2]; simp

set_option maxRecDepth 100000 in
set_option maxHeartbeats 4000000 in
theorem walk_circleOf (w : World) (a : Option Addr) (n c : Nat) (h : CodeAt w a n c) :
    Calls Try.prog 6 #[.slice a n c] w fun e w' => e = .returned (.bool true) ∧ Below w.heap.size w w' := by
  have hn := h.1
  have hc := h.2.1
  have HC := Lib.hid h
  clear h
  by_cases hl : 1048576 < n
  · go_enter Try.func6, Try.ntmps6
    go_wp2_with fail
    go_ret
    exact ⟨rfl, Below.refl _ _⟩
  go_enter Try.func6, Try.ntmps6
  go_wp2_with fail
  refine (drawCircleOf_any _ a n c HC.out).mono ?_
  rintro e w1 ⟨s, av, cv, a', c', l, ai, ci, key, rfl, hat, hin, htl, hml, hnl, hll, hb⟩
  have hsz1 := hb.size
  have HT1 := Lib.hid (hat.alloc (.cells #[.slice av s.m.length cv, .slice a' s.t.length c'] 26))
  have HI1 := Lib.hid (hin.alloc (.cells #[.slice av s.m.length cv, .slice a' s.t.length c'] 26))
  have HB1 := Lib.hid (Blk.new w1 26 #[.slice av s.m.length cv, .slice a' s.t.length c'])
  have HX1 := Lib.hid (hb.alloc hsz1 (.cells #[.slice av s.m.length cv, .slice a' s.t.length c'] 26))
  have HTL := Lib.hid htl
  have hbd := coL_bd s l key
  obtain ⟨L, hL⟩ : ∃ L, L = coL s l key := ⟨_, rfl⟩
  obtain ⟨z, hz⟩ : ∃ z, z = coB s l key := ⟨_, rfl⟩
  rw [← hL] at hbd
  have hup : ∀ w e w', CoPost s l key w e w' → Below w.heap.size w w' ∧ ∃ (a : Option Addr) (c : Nat), e = .returned (.tuple #[.slice a L.length c, .bool z]) ∧ IntsAt w' (fun b => w.heap.size ≤ b) L a c := by
    rintro w e w' ⟨hb, v, rfl, hr⟩
    rw [← hL] at hr
    obtain ⟨a, c, rfl, hi⟩ := hr.at (fun x hx => by have := hbd.1 x hx; unfold i64ok; omega)
    exact ⟨hb, a, c, by rw [hz], hi⟩
  have HUP := Lib.hid hup
  have HLL := Lib.hid hL
  have HZ := Lib.hid hz
  have hL10 : L.length ≤ 11 := hbd.2
  clear hat hin hb HC htl hup hL hz hbd
  go_wp2_with fail
  refine (implCircle_any s l key _ _ _ av cv a' c' ai ci HT1.out HI1.out).mono ?_
  intro e w2 hp
  obtain ⟨hb, a2, c2, rfl, hi2⟩ := HUP.out _ _ _ hp
  have hsz2 := hb.size
  simp only [World.size_alloc] at hsz2
  have HT2 := Lib.hid (HT1.out.below hb)
  have HI2 := Lib.hid (HI1.out.below hb)
  have HB2 := Lib.hid (HB1.out.below hb (by simp))
  have HX2 := Lib.hid (HX1.out.trans (hb.mono (by simp; omega)))
  have HL2 := Lib.hid hi2
  clear hb hp hi2 HT1 HI1 HB1 HX1
  obtain ⟨x0, x1, f0, f1⟩ := HB2.out.two
  go_wp2_with fail
  refine (specCircle_any s l key _ _ _ av cv a' c' ai ci HT2.out (by omega) HI2.out).mono ?_
  intro e w3 hp
  obtain ⟨hb, a3, c3, rfl, hi3⟩ := HUP.out _ _ _ hp
  have hsz3 := hb.size
  have HT3 := Lib.hid (HT2.out.below hb)
  have HI3 := Lib.hid (HI2.out.below hb)
  have HB3 := Lib.hid (HB2.out.below hb (by omega))
  have HX3 := Lib.hid (HX2.out.trans (hb.mono (by omega)))
  have HL3 := Lib.hid (HL2.out.below hb)
  have HM3 := Lib.hid hi3
  clear hb hp hi3 HT2 HI2 HB2 HX2 HL2 x0 x1 f0 f1
  have hnb : (z != z) = false := by simp
  go_wp2_with fail
  refine (brInts_any _ _ _ L a2 a3 c2 c3 HL3.out HM3.out).mono ?_
  rintro e w4 ⟨rfl, hb⟩
  have hsz4 := hb.size
  have HT4 := Lib.hid (HT3.out.below hb)
  have HI4 := Lib.hid (HI3.out.below hb)
  have HB4 := Lib.hid (HB3.out.below hb (by omega))
  have HX4 := Lib.hid (HX3.out.trans (hb.mono (by omega)))
  have HL4 := Lib.hid (HL3.out.below hb)
  clear hb HT3 HI3 HB3 HX3 HL3 HM3
  obtain ⟨x0, x1, f0, f1⟩ := HB4.out.two
  go_wp2_with fail
  clear hnb
  refine (implBuildKey_any s l key _ _ _ av cv a' c' ai ci HT4.out HI4.out).mono ?_
  rintro e w5 ⟨rfl, hb⟩
  obtain ⟨v, hv⟩ : ∃ v, v = bkV s l key := ⟨_, rfl⟩
  obtain ⟨o, ho⟩ : ∃ b, b = bkOk s l key := ⟨_, rfl⟩
  rw [← hv, ← ho]
  have hzo : z = true → o = false := fun h => by rw [ho]; exact co_no (by rw [← HZ.out]; exact h)
  have hsz5 := hb.size
  have HT5 := Lib.hid (HT4.out.below hb)
  have HB5 := Lib.hid (HB4.out.below hb (by omega))
  have HX5 := Lib.hid (HX4.out.trans (hb.mono (by omega)))
  have HL5 := Lib.hid (HL4.out.below hb)
  clear hb HT4 HI4 HB4 HX4 HL4 x0 x1 f0 f1 hv ho
  cases z
  · have hL0 : L = [] := by rw [HLL.out]; unfold coL; rw [if_neg (by rw [← HZ.out]; simp)]
    subst hL0
    clear hzo
    go_wp2_with fail
    go_loopw [12, 13, 14] (fun i _ _ wr => i = .int .i64 0 ∧ wr = w5) (fun _ _ _ _ => 0)
    case atStart => exact ⟨rfl, rfl⟩
    case round =>
      obtain ⟨rfl, rfl⟩ := hrel
      go_wp2_with fail
      go_ret
      exact ⟨rfl, HX5.out⟩
  · obtain rfl := hzo rfl
    have hring := coL_ring HZ.out.symm
    rw [← HLL.out] at hring
    have hpos : 0 < L.length := List.length_pos_iff.2 hring.1
    have HRG := Lib.hid hring.2
    have hposb : decide (0 < L.length) = true := by simp [hpos]
    clear hring
    go_wp2_with fail
    go_loopw [12, 13, 14] (fun i _ _ wr => ∃ k : Nat, k ≤ L.length ∧ i = .int .i64 k ∧ Below w5.heap.size w5 wr) (fun i _ _ _ => L.length - (intOf i).toNat)
    case atStart => exact ⟨0, by omega, rfl, Below.refl _ _⟩
    case round =>
      obtain ⟨k, hk, rfl, hb⟩ := hrel
      have hszr := hb.size
      have HXR := Lib.hid (HX5.out.trans (hb.mono (by omega)))
      have HBW := Lib.hid hb
      have HBR := Lib.hid (HB5.out.below hb (by omega))
      have HTR := Lib.hid (HT5.out.below hb)
      have HLR := Lib.hid (HL5.out.below hb)
      clear hb
      by_cases hlt : k < L.length
      · obtain ⟨hmd, y, hy, hmay, hy0, hy9⟩ := HRG.out k hlt
        obtain ⟨m, hm⟩ : ∃ m, m = (k + 1) % L.length := ⟨_, rfl⟩
        rw [← hm] at hy
        have hml : m < L.length := by rw [hm]; exact Nat.mod_lt _ hpos
        rw [List.getElem?_eq_getElem hml, Option.some.injEq] at hy
        obtain ⟨bi, oi, rfl, _, _, hci⟩ := HLR.out.get (Below.refl _ _) hlt
        obtain ⟨bj, oj, hbj, _, _, hcj⟩ := HLR.out.get (Below.refl _ _) hml
        simp only [Option.some.injEq, Addr.mk.injEq, and_true] at hbj
        obtain ⟨rfl, rfl⟩ := hbj
        rw [hy] at hcj
        have hkb := mdI_bd hmd
        obtain ⟨q, hq⟩ : ∃ q : Nat, L[k] = (q : Int) := ⟨L[k].toNat, by omega⟩
        rw [hq] at hci hmd hmay hkb
        have hqm : q < s.m.length := by omega
        have hqt : q < s.t.length := by have := HTL.out; omega
        have hmq : s.m[q] = true := by rw [mdI_nat] at hmd; unfold Sh.md at hmd; rw [getD_len hqm] at hmd; exact hmd
        have htk : s.tkI (q : Int) = s.t[q] := by unfold Sh.tkI; rw [Int.toNat_natCast]; exact getD_len hqt
        rw [htk] at hmay
        have htok : s.t[q].ok = true := by
          have h := HZ.out.symm
          unfold coB at h
          rw [Bool.and_eq_true, Bool.and_eq_true] at h
          have := Sh.tk_ok (inOk_of h.1.1).1 q
          rw [show s.tk q = s.t[q] from getD_len hqt] at this
          exact this
        obtain ⟨t, ht⟩ : ∃ t, t = s.t[q] := ⟨_, rfl⟩
        rw [← ht] at hmay htok
        have hmem : y ∈ mayO t := by unfold mayO; rw [if_pos htok]; exact mayI_mem.2 ⟨hy0, by omega, hmay⟩
        have HME := Lib.hid hmem
        have HT := Lib.hid ht
        have HMQ := Lib.hid hmq
        have hw1 : IntKind.i64.wrap ((k : Int) + 1) = (k : Int) + 1 := IntWalk.i64_in _ ⟨by omega, by omega⟩
        have hw2 : ((k : Int) + 1).tmod (L.length : Int) = (m : Int) := by
          have e1 : ((k : Int) + 1).tmod (L.length : Int) = ((k : Int) + 1) % (L.length : Int) := Int.tmod_eq_emod_of_nonneg (by omega)
          rw [e1, hm, Int.natCast_emod]; simp
        have hmi : (m : Int) < (L.length : Int) := by omega
        have hLne : ((L.length : Int) == 0) = false := beq_eq_false_iff_ne.2 (by omega)
        clear hy hkb hq htk hmay hmd htok hmem ht hm hmq
        go_wp2_with fail
        go_quiet (fail)
        revert nq
        intro n1
        obtain ⟨W, hW⟩ : ∃ W, W = wr.drewN n1 := ⟨_, rfl⟩
        have hbW : Below wr.heap.size wr W := by rw [hW]; exact below_drewN (Below.refl _ _) n1
        rw [← hW]
        clear hW
        have hbk := HBR.out.below hbW HBR.out.lt
        obtain ⟨bt, ot, at_, ct, rfl, _, _, e0, e1, e2, hs, ok1, ok2⟩ := (HTR.out.below hbW).2.elem (Below.refl _ _) hqt
        obtain ⟨bm, om, rfl, _, _, hcm⟩ := (HTR.out.below hbW).1.get (Below.refl _ _) hqm
        rw [← HT.out] at e0 e1 e2 hs
        rw [HMQ.out] at hcm
        have HS := Lib.hid hs
        have HBW2 := Lib.hid (HBW.out.trans (hbW.mono hszr))
        have hsW := hbW.size
        obtain ⟨x0, x1, f0, f1⟩ := hbk.two
        clear hbW hs hbk hci hcj hw1 hw2 hmi hLne
        go_wp2_with fail
        refine (implMay_any t _ _ at_ ct HS.out).mono ?_
        rintro e w6 ⟨hb, v6, rfl, hr6⟩
        obtain ⟨a6, c6, rfl, hi6⟩ := hr6.at (fun x hx => by
          unfold mayO at hx
          split at hx
          · have := mayI_mem.1 hx; unfold i64ok; omega
          · simp at hx)
        have HB6 := Lib.hid (HBW2.out.trans (hb.mono (by omega)))
        have HI6 := Lib.hid hi6
        obtain ⟨K, hK⟩ : ∃ K, K = mayO t := ⟨_, rfl⟩
        have hin6 : decide (y ∈ K) = true := by rw [hK]; simp [HME.out]
        have HIN6 := Lib.hid hin6
        rw [← hK] at HI6 ⊢
        clear hb hr6 hi6 x0 x1 f0 f1 e0 e1 e2 hcm hK hin6
        go_wp2_with fail
        refine (brHas_any _ _ K a6 c6 y HI6.out).mono ?_
        rintro e _ ⟨rfl, rfl⟩
        rw [HIN6.out]
        go_wp2_with fail
        go_roundw
        case rel => exact ⟨k + 1, by omega, by go_num, HB6.out⟩
        case measure => simp [intOf]; omega
      · have HLE := Lib.hid (show k = L.length by omega)
        go_wp2_with fail
        go_ret
        exact ⟨rfl, HXR.out⟩
end Go.Proofs.Ytohogojphnlhpaa

/- For every code the law FnCircleOf answers true: what CircleOf answers is a circle of made keys, each of which may fetch the next, and CircleOf answers as its model. No condition. -/
namespace Go.Proofs.Ytohogojphnlhpaa
open Go.ChangeShapes Go.WideShapes Go.ChangeAt Go.RowKit Go.Joins

set_option maxRecDepth 100000 in
theorem circleOf_lifted (os : Os) (started : os.Started) (H : Type) (enc : TypeId × Value → H) :
    ReturnsInHanded {} Try.checked os 6 .any (Rows.fnCircleOfSpec.pre6 enc Try.prog Try.f6 Rows.fnCircleOfRow.domain false) (Rows.fnCircleOfSpec.post enc Try.prog Try.f6 false true false false) := by
  refine returnsInHanded_of_change (C := Try.checked) own started (by kernel_rfl) Try.func6
    (ChangeSpec.witness6 (enc := enc) (C := Try.checked) false ⟨#[], #[.slice none 0 0], []⟩ 8 (by kernel_rfl) (by kernel_rfl) (by kernel_rfl) (by kernel_rfl)) ?_
  intro W base args ds gs before hval0 hW _ _
  have hval : ∀ (j : Nat) t v, Try.f6.params[j]? = some t → args[j]? = some v → Value.okWide Try.prog W .any base t v := hval0
  have hW' := hW
  obtain ⟨p, q, hA0, hV, rfl, _, _⟩ := hW
  have hA : DataW.TrodAll enc Try.prog W 0 (fun _ => true) true Try.f6.params.toList args.toList ds p := hA0
  rw [Try.params6] at hA hval
  obtain ⟨v0, d0, rfl, rfl, h0⟩ := trodAll_one hA
  obtain ⟨rfl, rfl⟩ := trodVars_none hV
  obtain ⟨a, n, c, rfl, hcode⟩ := open_code Try.underlying22 Try.underlying5 cellsByte (okWide_slice Try.underlying22 (hval 0 22 v0 rfl rfl)) h0
  refine (walk_circleOf W a n c hcode).mono fun e W' ⟨he, hb⟩ => ?_
  subst he
  exact ⟨_, rfl, law_post laidOut rfl rfl Try.underlying4 (by intro t ht; rw [Try.params6] at ht; simp at ht; subst ht; exact ⟨by kernel_rfl, of_decide_eq_true (by kernel_rfl)⟩) rfl rfl rfl hW' hb⟩

theorem circleOf_holds : Rows.FnCircleOfSaid :=
  OpenClaim.holds_of_wide 6 Try.f6 rfl rfl rfl rfl rfl rfl rfl ⟨rfl, rfl, rfl, rfl, rfl⟩ rfl rfl rfl rfl rfl (by kernel_rfl) Try.func6 (by kernel_rfl)
    (of_decide_eq_true (by kernel_rfl)) (by unfold Func.isWrapper; first | (rw [if_pos (by decide +kernel)]; kernel_rfl) | (rw [if_neg (by decide +kernel)]; exact ⟨rfl, rfl⟩))
    (fun os started H enc _ => circleOf_lifted os started H enc)
#print axioms circleOf_holds
end Go.Proofs.Ytohogojphnlhpaa
