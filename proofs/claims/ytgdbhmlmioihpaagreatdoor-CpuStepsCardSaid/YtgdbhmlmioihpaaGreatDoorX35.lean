/- Some texts of one proof, one behind the other; each has its own head below. -/
import Derived.Test.YtgdbhmlmioihpaaGreatDoorX34
import Derived.Test.YtgdbhmlmioihpaaGreatDoorX07
import Derived.Test.YtgdbhmlmioihpaaGreatDoorX04
import Derived.RangeFuncBox
import Derived.RangeFuncLeaves
import Derived.RangeFuncFrom
import Derived.Shelf.Abstract
import Derived.Shelf.AbstractIn
import Derived.OwnWalkIn
import Derived.TacticsInMore
import Derived.LoopNIn
import Derived.LoopIn
import Derived.Maps.AppendAt
import Derived.Sort.MapsRangeIn
import Derived.Lib.Hide
/- maps.Keys over a map of pages; slices.AppendSeq, slices.Collect of it. -/
section
set_option linter.unusedVariables false
namespace Go.Proofs.YtgdbhmlmioihpaaGreatDoor
open Go.RowKit Go.Maps Go.Shelf

attribute [local go_sem] Oper.semAt_some

theorem keyOf_u32 {key : Value} {kl : Lit} (h : keyOf Tryz.prog 23 key = some kl) : ∃ x : Int, key = .int .u32 x ∧ kl = .int .u32 x ∧ 0 ≤ x ∧ x < 4294967296 := by
  cases key <;> simp [keyOf, Tryz.underlying23, mapKey] at h
  rename_i q a
  obtain ⟨⟨rfl, hw⟩, rfl⟩ := h
  refine ⟨a, rfl, rfl, ?_⟩
  have e1 : IntKind.u32.min = 0 := rfl
  have e2 : IntKind.u32.max = 4294967295 := rfl
  simp only [Lit.wf, e1, e2, Bool.and_eq_true, decide_eq_true_eq] at hw
  omega

/-- What has come while some keys are still left. -/
def Sofar (D0 : DataW Unit) (left : Lit → Bool) (ss : List Int) : Prop :=
  ss.Nodup ∧ (∀ x ∈ ss, 0 ≤ x ∧ x < 4294967296) ∧ ∀ x, 0 ≤ x → x < 4294967296 → (x ∈ ss ↔ (Maps.has D0 (.int .u32 x) = true ∧ left (.int .u32 x) = false))
/-- All keys have come. -/
def Came (D0 : DataW Unit) (ss : List Int) : Prop :=
  ss.Nodup ∧ ss.length ≤ Maps.size D0 ∧ ∀ x, x ∈ ss ↔ (0 ≤ x ∧ x < 4294967296 ∧ Maps.has D0 (.int .u32 x) = true)

theorem Sofar.start (D0 : DataW Unit) : Sofar D0 (Maps.has D0) [] := ⟨List.nodup_nil, fun x hx => by simp at hx, fun x _ _ => by cases h : Maps.has D0 (.int .u32 x) <;> simp⟩
theorem Sofar.step {D0 : DataW Unit} {left : Lit → Bool} {ss : List Int} (h : Sofar D0 left ss) {x : Int} {y : DataW Unit} (h0 : 0 ≤ x) (h1 : x < 4294967296) (hlk : left (.int .u32 x) = true) (hat : ∀ zd, D0.atKey (.int .u32 x) zd = y) :
    Sofar D0 (fun z => left z && !z.sameKey (.int .u32 x)) (ss ++ [x]) := by
  have hhas : Maps.has D0 (.int .u32 x) = true := has_true_of_atKey hat
  have hnew : x ∉ ss := fun hx => by have := ((h.2.2 x h0 h1).1 hx).2; rw [hlk] at this; cases this
  refine ⟨List.nodup_append.2 ⟨h.1, by simp, fun a ha c hc => by simp at hc; subst hc; exact fun e => hnew (e ▸ ha)⟩, fun y hy => ?_, fun y g0 g1 => ?_⟩
  · rcases List.mem_append.1 hy with hy | hy
    · exact h.2.1 y hy
    · simp at hy; subst hy; exact ⟨h0, h1⟩
  · by_cases hy : y = x
    · subst hy; simp [hhas, Lit.sameKey]
    · simp [h.2.2 y g0 g1, hy, Lit.sameKey]
theorem Sofar.all {D0 : DataW Unit} {left : Lit → Bool} {ss : List Int} (h : Sofar D0 left ss) (hl : ∀ kl, left kl = false) (hs : ss.length ≤ Maps.size D0) : Came D0 ss :=
  ⟨h.1, hs, fun x => ⟨fun hx => ⟨(h.2.1 x hx).1, (h.2.1 x hx).2, ((h.2.2 x (h.2.1 x hx).1 (h.2.1 x hx).2).1 hx).1⟩, fun ⟨h0, h1, h2⟩ => (h.2.2 x h0 h1).2 ⟨h2, hl _⟩⟩⟩

set_option maxHeartbeats 2000000 in
set_option maxRecDepth 1000000 in
theorem keys_lit (n : Nat) (hn : 1 ≤ n) (l Bm b nn : Nat) (D0 : DataW Unit) (J Jx : List Int → World → Prop)
    (hY : ∀ pre x W, J pre W → pre.length < Maps.size D0 → YieldAt Fence.wide (n - 1) Tryz.prog l #[.int .u32 x] W fun e W' =>
      (e = .returned (.bool true) ∧ J (pre ++ [x]) W' ∧ KeepsWalks W W') ∨ (e = .returned (.bool false) ∧ Jx (pre ++ [x]) W'))
    (W : World) (hJ : AbidesFrom W.heap.size J) (hm : W.cell? ⟨Bm, 0, none⟩ = some (.map (some b))) (hown : W.ownsMap Tryz.prog 23 ptrR b nn D0) (h0 : J [] W) :
    CallsIn Fence.wide n Tryz.prog 76 #[.func (.yield l) #[] #[], .pointer (some ⟨Bm, 0, none⟩)] W fun e W' => (∃ v, e = .returned v) ∧
      ((∃ ss, Came D0 ss ∧ J ss W') ∨ (∃ pre, True ∧ Jx pre W')) := by
  refine callsIn_of_wp Tryz.func76 rfl trivial ?_ rfl
  simp only [Tryz.ntmps76, List.size_toArray, List.length_cons, List.length_nil, Nat.reduceAdd, Nat.reduceSub, Array.replicate_succ, Array.replicate_zero, List.push_toArray, List.append_toArray, List.nil_append, List.cons_append]
  gi_wp2_with (first
    | (gi_at_range; refine wpListIn_range_own _ rfl _ 90 rfl 23 93 keyed Tryz.underlying90 _ b nn _ rfl hown ?_; intro w0 hrg0 hg0 hs0)
    | gi_in)
  go_frame
  gi_loopw [3] (fun _ wr => ∃ (left : Lit → Bool) (cnt : Nat) (ss : List Int), wr.ranges Tryz.prog 23 ptrR b W.heap.size nn D0 left cnt ∧ ss.length + cnt ≤ Maps.size D0 ∧ Sofar D0 left ss ∧ J ss wr)
    (fun _ wr => wr.rangeLeft b W.heap.size)
  case atStart =>
    exact ⟨_, _, [], hrg0, by simp, Sofar.start D0, hJ [] W w0 none h0 hg0 (fun r e => by cases e)⟩
  case round =>
    obtain ⟨left, cnt, ss, hrg, hcs, hC, hJs⟩ := hrel
    gi_wp2_with (first
      | (gi_at_next; refine wpListIn_next_ranges _ rfl _ rfl 23 keyed ptrR (Value.int .u32) id (fun key kl hk => by obtain ⟨x, hx, _⟩ := keyOf_u32 hk; exact ⟨x, hx⟩) (fun v _ _ => ⟨v, rfl⟩) b W.heap.size nn _ _ _ rfl hrg ?_ ?_)
      | gi_in)
    · intro hc0 hl0
      gi_wp2
      go_end0
      exact ⟨⟨_, rfl⟩, .inl ⟨ss, hC.all hl0 (by omega), hJs⟩⟩
    · intro x c kl yd yp w2 cnt2 hkey hlk hv hat hrg2 hlt hg2 hs2 hen
      obtain ⟨x', ex, rfl, hx0, hx1⟩ := keyOf_u32 hkey
      obtain rfl : x = x' := by simpa using ex
      have hJ2 : J ss w2 := hJ ss wr w2 (some W.heap.size) hJs hg2 (fun r e => by cases e; exact ⟨Nat.le_refl _, hrg.iter_walk⟩)
      obtain ⟨fn, tmps, assign, body, hy, hR⟩ := hY ss x w2 hJ2 (by omega)
      have hC2 := hC.step hx0 hx1 hlk hat
      clear hs2 hx0 hx1
      gi_wp2
      refine hR.mono ?_
      rintro e W3 (⟨rfl, hJ3, hk3⟩ | ⟨rfl, hJx3⟩)
      · gi_wp2
        have hrg3 := hrg2.of_walks hk3
        go_roundw
        case rel => exact ⟨_, cnt2, ss ++ [x], hrg3, by simp; omega, hC2, hJ3⟩
        case measure => rw [hrg3.left_eq, hrg.left_eq]; exact hlt
      · gi_wp2
        refine bodyPost_ret (results_none rfl _ _ _) rfl ?_
        exact ⟨⟨_, rfl⟩, .inr ⟨ss ++ [x], trivial, hJx3⟩⟩

theorem keys_stops (n : Nat) (hn : 1 ≤ n) (Bm b nn : Nat) (D0 : DataW Unit) (w : World) (hBm : Bm < w.heap.size) (hm : w.cell? ⟨Bm, 0, none⟩ = some (.map (some b))) (hown : w.ownsMap Tryz.prog 23 ptrR b nn D0) :
    SeqStopsK Fence.wide n Tryz.prog 76 #[.pointer (some ⟨Bm, 0, none⟩)] (fun x : Int => #[Value.int .u32 x]) KeepsWalks (Came D0) (fun _ => True) (Maps.size D0) w := fun l J Jx W hW hJ _ hY h0 => by
  have hown' : W.ownsMap Tryz.prog 23 ptrR b nn D0 := by
    have hbl := hown.lt
    obtain ⟨es, clock, hb, Ft, hs, hD⟩ := hown
    exact ⟨es, clock, (hW.block b hbl).trans hb, Ft, hs, hD⟩
  exact keys_lit n hn l Bm b nn D0 J Jx hY W hJ ((hW.cell (p := ⟨Bm, 0, none⟩) hBm).trans hm) hown' h0

theorem info_u32 : (Tryz.prog.info? 23).map (fun i => (i.zero, i.size, i.bytes)) = some (some (.int .u32 0), 1, 4) := by kernel_rfl

set_option maxHeartbeats 2000000 in
set_option maxRecDepth 1000000 in
theorem appendSeq_any (n : Nat) (hn : 3 ≤ n) (Bm b nn : Nat) (D0 : DataW Unit) (hN : Maps.size D0 < 1099511627776) (w : World) (hBm : Bm < w.heap.size) (hm : w.cell? ⟨Bm, 0, none⟩ = some (.map (some b))) (hown : w.ownsMap Tryz.prog 23 ptrR b nn D0) :
    CallsIn Fence.wide n Tryz.prog 95 #[.slice none 0 0, .func (.func 76) #[] #[.pointer (some ⟨Bm, 0, none⟩)]] w fun e W' => ∃ v ss, e = .returned v ∧ Came D0 ss ∧
      W'.ownsRow w.heap.size 23 1 v ss.length (ss.map (Value.int .u32)) ∧ Below w.heap.size w W' := by
  have h1 : 1 ≤ n := by omega
  have hmx : 1099511627776 ≤ maxLen := by decide
  obtain ⟨i0, hi, hz0, hz1, hz2⟩ := info_parts info_u32
  refine callsIn_of_wp_marks Tryz.func95 rfl trivial ?_ rfl
  simp only [Tryz.ntmps95, List.size_toArray, List.length_cons, List.length_nil, Nat.reduceAdd, Nat.reduceSub, Array.replicate_succ, Array.replicate_zero, List.push_toArray, List.append_toArray, List.nil_append, List.cons_append]
  gi_wp2
  have bO := Boxed.new w 22 (.slice none 0 0)
  have hB0 : Below w.heap.size w (w.alloc (.cells #[.slice none 0 0] 22)) := (Below.refl _ w).alloc (Nat.le_refl _) _
  have hown1 : (w.alloc (.cells #[.slice none 0 0] 22)).ownsMap Tryz.prog 23 ptrR b nn D0 := by
    have hbl := hown.lt
    obtain ⟨es, clock, hb, Ft, hs, hD⟩ := hown
    exact ⟨es, clock, (hB0.block b hbl).trans hb, Ft, hs, hD⟩
  refine wpIn_rangeFunc_ownF rfl h1 (gf := 76) (lb := #[.pointer (some ⟨Bm, 0, none⟩)]) rfl trivial (enters_of Tryz.func76 (by kernel_rfl) rfl)
    (keys_stops (n - 1) (by omega) Bm b nn D0 _ (by simp; omega) ((hB0.cell (p := ⟨Bm, 0, none⟩) hBm).trans hm) hown1) walksK_t walksK_b (Below.refl _ _) (fun _ => rfl)
    (fun pre W => (∃ v, Boxed W w.heap.size 22 v ∧ W.ownsRow w.heap.size 23 1 v pre.length (pre.map (Value.int .u32)) ∧ True) ∧ Below w.heap.size w W)
    (fun _ _ _ => False)
    (OwnFrom.and (Own.from (holdsRow_own w.heap.size w.heap.size 22 23 1 (fun pre : List Int => pre.length) (fun pre : List Int => pre.map (Value.int .u32)) (fun _ _ => True)) _) (ownFrom_below (Nat.le_refl _) (by simp)))
    (fun _ _ _ _ _ hs _ _ => hs)
    ⟨⟨_, bO, World.ownsRow_nil _ _ _ _, trivial⟩, hB0⟩
    (fun x => { tmps := #[.slice none 0 0, .func (.func 76) #[] #[.pointer (some ⟨Bm, 0, none⟩)], .pointer (some ⟨w.heap.size, 0, none⟩), undef, .slice none 0 0, .int .u32 x, .func (.func 76) #[] #[.pointer (some ⟨Bm, 0, none⟩)], .int .u32 x, undef, undef, undef, undef, undef], defers := [] }) ?assign ?body ?done ?stop
  case assign =>
    intro l x W K hK
    gi_wp2
    exact hK
  case body =>
    rintro l pre x W ⟨⟨v, hv, hrow, _⟩, hB⟩ hlt
    have hc := hv.cell
    gi_wp2_with (gi_at_builtin; refine wpListIn_append_own _ rfl _ _ 22 rfl w.heap.size 23 i0 (.int .u32 0) 1 4 Tryz.underlying22 hi hz0 hz1 hz2 rfl (by decide) _ _ _ rfl (hrow.alloc _) ⟨W.heap.size, 0, none⟩ 1 1 [.int .u32 x] rfl rfl (cell_one_new _ _ _) (by simp [Value.oneCell']) (by omega) (by omega) (by have := hB.size; simp; omega) ?_; intro v' w1 hown' hgrow _; obtain ⟨g', cap', rfl⟩ := ownsRow_succ hown'; obtain ⟨hv1, hv2, hr2, hk2, hb2⟩ := hv.appended (by decide) hrow hB.size (Nat.le_refl _) hown' hgrow; have hc1 := hv1.cell; have hf1 := hv1.frozen)
    exact ⟨hk2, hk2.walks, ⟨_, hv2, by simpa using hr2, trivial⟩, hB.trans hb2⟩
  case done =>
    rintro D ys W hD hS ⟨⟨v, hv, hrow, _⟩, hB⟩ hK
    have hc := hv.cell
    gi_wp2
    refine ⟨by simp, .inl ⟨_, _, rfl, run_takeDeferred hK, ?_⟩⟩
    exact ⟨_, results_tmp rfl _ _ _, v, ys, rfl, hS, ownsRow_putObj hrow _ hK rfl, hB.trans (belowK_b (w := w) (Nat.le_refl _) W D _ _ (by simp at hD; omega) hK rfl rfl)⟩
  case stop =>
    rintro D c pre W _ _ h _
    exact h.elim

set_option maxHeartbeats 1000000 in
theorem collect_any (n : Nat) (hn : 4 ≤ n) (Bm b nn : Nat) (D0 : DataW Unit) (hN : Maps.size D0 < 1099511627776) (w : World) (hBm : Bm < w.heap.size) (hm : w.cell? ⟨Bm, 0, none⟩ = some (.map (some b))) (hown : w.ownsMap Tryz.prog 23 ptrR b nn D0) :
    CallsIn Fence.wide n Tryz.prog 74 #[.func (.func 76) #[] #[.pointer (some ⟨Bm, 0, none⟩)]] w fun e W' => ∃ v ss, e = .returned v ∧ Came D0 ss ∧
      W'.ownsRow w.heap.size 23 1 v ss.length (ss.map (Value.int .u32)) ∧ Below w.heap.size w W' := by
  have h1 : 1 ≤ n := by omega
  refine callsIn_of_wp Tryz.func74 rfl trivial ?_ rfl
  simp only [Tryz.ntmps74, List.size_toArray, List.length_cons, List.length_nil, Nat.reduceAdd, Nat.reduceSub, Array.replicate_succ, Array.replicate_zero, List.push_toArray, List.append_toArray, List.nil_append, List.cons_append]
  gi_wp2_with (refine ⟨trivial, ?_⟩; gi_at_call 95; refine (appendSeq_any (n - 1) (by omega) Bm b nn D0 hN _ hBm hm hown).mono ?_; rintro e w' ⟨v, ss, rfl, hS, hrow, hb⟩)
  go_ret
  exact ⟨v, ss, rfl, hS, hrow, hb⟩
end Go.Proofs.YtgdbhmlmioihpaaGreatDoor
end

/- slices.Sort, slices.Sorted of a map's keys; Pages. -/
section
set_option linter.unusedVariables false
namespace Go.Proofs.YtgdbhmlmioihpaaGreatDoor
open Go.RowKit Go.Maps Go.Sort

theorem bits_small : ∀ x : Fin 256, bitsLen x.val < 1000 := by decide +kernel

set_option maxHeartbeats 2000000 in
set_option maxRecDepth 1000000 in
theorem sort_any (P R : List Value) (g off cap : Nat) (d : Array Int) (w : World) (hH : Row P R w g off d) (hsz : d.size < 256) :
    Calls Tryz.prog 75 #[.slice (some ⟨g, off, none⟩) d.size cap] w fun e w' => e = .returned (.tuple #[]) ∧ Row P R w' g off (d.toList.mergeSort (fun x y => !ltInt y x)).toArray ∧ w.grownBy w' (some g) := by
  have HC := Lib.hid (pdq_all d.size P R g off cap 0 d.size (bitsLen d.size) d w (by omega) hH (by omega) (Nat.le_refl _) hsz (bits_small ⟨d.size, hsz⟩) (Or.inl rfl))
  have HL := Lib.hid (fun w => len_any d.size hsz w)
  have HS := Lib.hid (fun d' h1 h2 => sorted_unique_holds swo_ltInt (fun x y h1 h2 => by simp only [ltInt, decide_eq_false_iff_not] at h1 h2; omega) d d' h1 h2)
  have hm : ((d.size : Int) % 18446744073709551616) = (d.size : Int) := by omega
  have hs' : d.size < 1099511627776 := by omega
  clear hH hsz
  go_enter Tryz.func75, Tryz.ntmps75
  go_wp2_with (first | (go_at_call 97; refine (HL.out _).mono ?_; rintro e w' ⟨rfl, rfl⟩) | (go_at_call 96; refine HC.out.mono ?_; rintro e w' ⟨rfl, ⟨d', h1, h2, h3⟩, h4⟩))
  go_end0
  refine ⟨rfl, ?_, h4⟩
  have := HS.out d' h1 h2
  rw [← this]
  exact h3

set_option maxHeartbeats 2000000 in
set_option maxRecDepth 1000000 in
theorem insertion_nil (w : World) : Calls Tryz.prog 109 #[.slice none 0 0, .int .i64 0, .int .i64 0] w fun e w' => e = .returned (.tuple #[]) ∧ w' = w := by
  go_enter Tryz.func109, Tryz.ntmps109
  go_wp2
  go_loopw [6] (fun vi wr => vi = .int .i64 1 ∧ wr = w) (fun vi _ => 0)
  case atStart => exact ⟨rfl, rfl⟩
  case round =>
    obtain ⟨rfl, rfl⟩ := hrel
    go_wp2
    go_end0
    exact ⟨rfl, rfl⟩

set_option maxHeartbeats 2000000 in
set_option maxRecDepth 1000000 in
theorem pdq_nil (w : World) : Calls Tryz.prog 96 #[.slice none 0 0, .int .i64 0, .int .i64 0, .int .i64 0] w fun e w' => e = .returned (.tuple #[]) ∧ w' = w := by
  go_enter Tryz.func96, Tryz.ntmps96
  go_wp2_with fail
  go_loopw [1, 2, 3, 8, 9] (fun s1 s2 s3 s8 s9 wr => s1 = .int .i64 0 ∧ s2 = .int .i64 0 ∧ s3 = .int .i64 0 ∧ s8 = .bool true ∧ s9 = .bool true ∧ wr = w) (fun _ _ _ _ _ _ => 0)
  case atStart => exact ⟨rfl, rfl, rfl, rfl, rfl, rfl⟩
  case round =>
    obtain ⟨rfl, rfl, rfl, rfl, rfl, rfl⟩ := hrel
    go_wp2_with (go_at_call 109; refine (insertion_nil _).mono ?_; rintro e w2 ⟨rfl, rfl⟩)
    (try simp only [Exit.inBlock, Exit.then]); refine bodyPost_ret (results_none rfl _ _ _) rfl ?_
    exact ⟨rfl, rfl⟩

set_option maxHeartbeats 2000000 in
set_option maxRecDepth 1000000 in
theorem sort_nil (w : World) : Calls Tryz.prog 75 #[.slice none 0 0] w fun e w' => e = .returned (.tuple #[]) ∧ w' = w := by
  have HL := Lib.hid (fun w => len_any 0 (by decide) w)
  have hb0 : bitsLen 0 = 0 := rfl
  rw [hb0] at HL
  go_enter Tryz.func75, Tryz.ntmps75
  go_wp2_with (first | (go_at_call 97; refine (HL.out _).mono ?_; rintro e w' ⟨rfl, rfl⟩) | (go_at_call 96; refine (pdq_nil _).mono ?_; rintro e w' ⟨rfl, rfl⟩))
  go_end0
  exact ⟨rfl, rfl⟩

/-- The value is a slice of just these numbers, its row at or beyond a block. -/
def Words (w : World) (base : Nat) (v : Value) (l : List Int) : Prop :=
  (v = .slice none 0 0 ∧ l = []) ∨ ∃ g cap R, v = .slice (some ⟨g, 0, none⟩) l.length cap ∧ base ≤ g ∧ Row [] R w g 0 l.toArray
theorem Words.low {w : World} {base base' : Nat} {v : Value} {l : List Int} (h : Words w base v l) (hb : base' ≤ base) : Words w base' v l := by
  rcases h with h | ⟨g, cap, R, h1, h2, h3⟩
  · exact Or.inl h
  · exact Or.inr ⟨g, cap, R, h1, by omega, h3⟩
theorem Words.of_own {w : World} {base : Nat} {v : Value} {l : List Int} (h : w.ownsRow base 23 1 v l.length (l.map (Value.int .u32))) : Words w base v l := by
  rcases h.2 with ⟨h1, h2⟩ | ⟨g, cap, cur, h1, h2, h3, h4, h5, h6, h7⟩
  · exact Or.inl ⟨h1, List.eq_nil_of_length_eq_zero h2⟩
  · refine Or.inr ⟨g, cap, cur.toList.drop (l.length * 1), h1, h2, rfl, ?_⟩
    have : (([] : List Value) ++ l.toArray.toList.map encU ++ cur.toList.drop (l.length * 1)).toArray = cur := by
      have e : l.toArray.toList.map encU = cur.toList.take (l.length * 1) := by rw [h7]; rfl
      rw [e, List.nil_append, List.take_append_drop]
    rw [this]
    exact h3

set_option maxHeartbeats 2000000 in
set_option maxRecDepth 1000000 in
theorem sorted_any (Bm b nn : Nat) (D0 : DataW Unit) (hN : Maps.size D0 < 256) (w : World) (hBm : Bm < w.heap.size) (hm : w.cell? ⟨Bm, 0, none⟩ = some (.map (some b))) (hown : w.ownsMap Tryz.prog 23 ptrR b nn D0) :
    Calls Tryz.prog 42 #[.func (.func 76) #[] #[.pointer (some ⟨Bm, 0, none⟩)]] w fun e w' => ∃ v ss, e = .returned v ∧ Came D0 ss ∧ Words w' w.heap.size v (ss.mergeSort (fun x y => !ltInt y x)) ∧ Below w.heap.size w w' := by
  have HC := Lib.hid (callsIn_wide.1 (collect_any 5 (by decide) Bm b nn D0 (by omega) w hBm hm hown))
  clear hBm hm hown
  go_enter Tryz.func42, Tryz.ntmps42
  go_wp2_with (go_at_call 74; refine HC.out.mono ?_; rintro e w1 ⟨v, ss, rfl, hS, hrow, hb⟩; have hW := Words.of_own hrow; clear hrow; rcases hW with ⟨rfl, rfl⟩ | ⟨g, cap, R, rfl, hg, hR⟩)
  · go_wp2_with (go_at_call 75; refine (sort_nil _).mono ?_; rintro e w2 ⟨rfl, rfl⟩)
    go_ret
    exact ⟨_, [], rfl, hS, Or.inl ⟨rfl, by simp⟩, hb⟩
  · have hl : ss.length < 256 := by have := hS.2.1; omega
    have HS := Lib.hid (sort_any [] R g 0 cap ss.toArray w1 hR (by simpa using hl))
    simp only [List.size_toArray] at HS
    clear hl
    go_wp2_with (go_at_call 75; refine HS.out.mono ?_; rintro e w2 ⟨rfl, h1, h2⟩)
    go_ret
    exact ⟨_, ss, rfl, hS, Or.inr ⟨g, cap, R, by simp, hg, h1⟩, hb.grown h2 hb.size (fun k e => by cases e; exact hg)⟩

theorem sort_pages (A : As) (ss : List Int) (hn : ss.Nodup) (h : ∀ x, x ∈ ss ↔ x ∈ pagesOf A) : ss.mergeSort (fun x y => !ltInt y x) = pagesOf A := by
  have hp : (pagesOf A).Nodup := (pagesOf_lt A).imp (fun h => by omega)
  have hperm : ss.Perm (pagesOf A) := (List.perm_ext_iff_of_nodup hn hp).2 h
  have tr : ∀ a b c : Int, (!ltInt b a) = true → (!ltInt c b) = true → (!ltInt c a) = true := fun a b c h1 h2 => by simp [ltInt] at *; omega
  have tot : ∀ a b : Int, ((!ltInt b a) || (!ltInt a b)) = true := fun a b => by
    simp only [ltInt, Bool.or_eq_true, Bool.not_eq_true', decide_eq_false_iff_not]; omega
  refine List.Perm.eq_of_pairwise (le := fun a b => (!ltInt b a) = true) (fun a b _ _ h1 h2 => ?_) (List.pairwise_mergeSort tr tot ss) ((pagesOf_lt A).imp (fun h => by simp [ltInt]; omega)) ((List.mergeSort_perm ss _).trans hperm)
  simp [ltInt] at h1 h2
  omega

set_option maxHeartbeats 1000000 in
theorem keys_any (mb : Option Nat) (w : World) : Calls Tryz.prog 43 #[.map mb] w fun e w' => e = .returned (.func (.func 76) #[] #[.pointer (some ⟨w.heap.size, 0, none⟩)]) ∧ w' = w.alloc (.cells #[.map mb] 90) := by
  go_enter Tryz.func43, Tryz.ntmps43
  go_wp2
  go_ret
  exact ⟨rfl, rfl⟩

set_option maxHeartbeats 2000000 in
set_option maxRecDepth 1000000 in
theorem pages_any (b e n : Nat) (A : As) (w : World) (h : SpaceAt w b e n A) (hn : n < 256) :
    Calls Tryz.prog 18 #[.pointer (some ⟨b + 1, 0, none⟩)] w fun r w' => ∃ v, r = .returned v ∧ Words w' w.heap.size v (pagesOf A) ∧ Below w.heap.size w w' := by
  obtain ⟨pg, h⟩ := h
  have c := h.cell
  obtain ⟨D0, hown, hD⟩ := h.map
  have hB := Lib.hid ((Below.refl w.heap.size w).alloc (Nat.le_refl _) (.cells #[.map (some b)] 90))
  have HS := Lib.hid (sorted_any w.heap.size b n D0 (by have := hown.size_le; omega) (w.alloc (.cells #[.map (some b)] 90)) (by simp) (Boxed.new w 90 (.map (some b))).cell (hown.alloc _))
  have HK : Hid (∀ ss, Came D0 ss → ss.mergeSort (fun x y => !ltInt y x) = pagesOf A) := Lib.hid fun ss hC => sort_pages A ss hC.1 fun x => by
    rw [hC.2.2 x, mem_pagesOf]
    constructor
    · rintro ⟨h0, h1, h2⟩
      rw [(hD x h0 h1).2] at h2
      unfold pgk at h2
      split at h2
      · rename_i hx
        obtain ⟨p, hp⟩ := Option.isSome_iff_exists.1 h2
        obtain ⟨q1, _, _, f, q2, _⟩ := h.page _ p hp
        exact ⟨_, q1, by rw [q2]; rfl, by omega⟩
      · cases h2
    · rintro ⟨i, h1, h2, rfl⟩
      refine ⟨by omega, by omega, ?_⟩
      rw [(hD _ (by omega) (by omega)).2, pgk_at]
      cases hp : pg i with
      | none => rw [h.none i hp] at h2; cases h2
      | some p => rfl
  clear hown hD h hn
  go_enter Tryz.func18, Tryz.ntmps18
  go_wp2_with (first | (go_at_call 43; refine (keys_any _ _).mono ?_; rintro e w1 ⟨rfl, rfl⟩) | (go_at_call 42; refine HS.out.mono ?_; rintro e w2 ⟨v, ss, rfl, hS, hW, hb⟩))
  go_ret
  rw [HK.out _ hS] at hW
  exact ⟨v, rfl, hW.low (by simp), hB.out.trans (hb.mono (by simp))⟩
end Go.Proofs.YtgdbhmlmioihpaaGreatDoor
end
