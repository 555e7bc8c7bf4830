/- slices.Sort, slices.Sorted of a map's keys; Pages. -/
import Derived.Test.YtfickpjecehboaaTI
import Derived.Test.YtfickpjecehboaaSN
set_option linter.unusedVariables false
namespace Go.Proofs.Ytfickpjecehboaa
open Go.RowKit Go.Maps Go.Sort

theorem bits_small : ∀ x : Fin 256, bitsLen x.val < 1000 := by decide +kernel

set_option maxHeartbeats 2000000 in
set_option maxRecDepth 1000000 in
theorem sort_any (P R : List Value) (g off cap : Nat) (d : Array Int) (w : World) (hH : Row P R w g off d) (hsz : d.size < 256) :
    Calls Try.prog 44 #[.slice (some ⟨g, off, none⟩) d.size cap] w fun e w' => e = .returned (.tuple #[]) ∧ Row P R w' g off (d.toList.mergeSort (fun x y => !ltInt y x)).toArray ∧ w.grownBy w' (some g) := by
  have HC := Lib.hid (pdq_all d.size P R g off cap 0 d.size (bitsLen d.size) d w (by omega) hH (by omega) (Nat.le_refl _) hsz (bits_small ⟨d.size, hsz⟩) (Or.inl rfl))
  have HL := Lib.hid (fun w => len_any d.size hsz w)
  have HS := Lib.hid (fun d' h1 h2 => sorted_unique_holds swo_ltInt (fun x y h1 h2 => by simp only [ltInt, decide_eq_false_iff_not] at h1 h2; omega) d d' h1 h2)
  have hm : ((d.size : Int) % 18446744073709551616) = (d.size : Int) := by omega
  have hs' : d.size < 1099511627776 := by omega
  clear hH hsz
  go_enter Try.func44, Try.ntmps44
  go_wp2_with (first | (go_at_call 52; refine (HL.out _).mono ?_; rintro e w' ⟨rfl, rfl⟩) | (go_at_call 51; refine HC.out.mono ?_; rintro e w' ⟨rfl, ⟨d', h1, h2, h3⟩, h4⟩))
  go_end0
  refine ⟨rfl, ?_, h4⟩
  have := HS.out d' h1 h2
  rw [← this]
  exact h3

set_option maxHeartbeats 2000000 in
set_option maxRecDepth 1000000 in
theorem insertion_nil (w : World) : Calls Try.prog 55 #[.slice none 0 0, .int .i64 0, .int .i64 0] w fun e w' => e = .returned (.tuple #[]) ∧ w' = w := by
  go_enter Try.func55, Try.ntmps55
  go_wp2
  go_loopw [6] (fun vi wr => vi = .int .i64 1 ∧ wr = w) (fun vi _ => 0)
  case atStart => exact ⟨rfl, rfl⟩
  case round =>
    obtain ⟨rfl, rfl⟩ := hrel
    go_wp2
    go_end0
    exact ⟨rfl, rfl⟩

set_option maxHeartbeats 2000000 in
set_option maxRecDepth 1000000 in
theorem pdq_nil (w : World) : Calls Try.prog 51 #[.slice none 0 0, .int .i64 0, .int .i64 0, .int .i64 0] w fun e w' => e = .returned (.tuple #[]) ∧ w' = w := by
  go_enter Try.func51, Try.ntmps51
  go_wp2_with fail
  go_loopw [1, 2, 3, 8, 9] (fun s1 s2 s3 s8 s9 wr => s1 = .int .i64 0 ∧ s2 = .int .i64 0 ∧ s3 = .int .i64 0 ∧ s8 = .bool true ∧ s9 = .bool true ∧ wr = w) (fun _ _ _ _ _ _ => 0)
  case atStart => exact ⟨rfl, rfl, rfl, rfl, rfl, rfl⟩
  case round =>
    obtain ⟨rfl, rfl, rfl, rfl, rfl, rfl⟩ := hrel
    go_wp2_with (go_at_call 55; refine (insertion_nil _).mono ?_; rintro e w2 ⟨rfl, rfl⟩)
    (try simp only [Exit.inBlock, Exit.then]); refine bodyPost_ret (results_none rfl _ _ _) rfl ?_
    exact ⟨rfl, rfl⟩

set_option maxHeartbeats 2000000 in
set_option maxRecDepth 1000000 in
theorem sort_nil (w : World) : Calls Try.prog 44 #[.slice none 0 0] w fun e w' => e = .returned (.tuple #[]) ∧ w' = w := by
  have HL := Lib.hid (fun w => len_any 0 (by decide) w)
  have hb0 : bitsLen 0 = 0 := rfl
  rw [hb0] at HL
  go_enter Try.func44, Try.ntmps44
  go_wp2_with (first | (go_at_call 52; refine (HL.out _).mono ?_; rintro e w' ⟨rfl, rfl⟩) | (go_at_call 51; refine (pdq_nil _).mono ?_; rintro e w' ⟨rfl, rfl⟩))
  go_end0
  exact ⟨rfl, rfl⟩

/-- The value is a slice of just these numbers, its row at or beyond a block. -/
def Words (w : World) (base : Nat) (v : Value) (l : List Int) : Prop :=
  (v = .slice none 0 0 ∧ l = []) ∨ ∃ g cap R, v = .slice (some ⟨g, 0, none⟩) l.length cap ∧ base ≤ g ∧ Row [] R w g 0 l.toArray
theorem Words.low {w : World} {base base' : Nat} {v : Value} {l : List Int} (h : Words w base v l) (hb : base' ≤ base) : Words w base' v l := by
  rcases h with h | ⟨g, cap, R, h1, h2, h3⟩
  · exact Or.inl h
  · exact Or.inr ⟨g, cap, R, h1, by omega, h3⟩
theorem Words.of_own {w : World} {base : Nat} {v : Value} {l : List Int} (h : w.ownsRow base 23 1 v l.length (l.map (Value.int .u32))) : Words w base v l := by
  rcases h.2 with ⟨h1, h2⟩ | ⟨g, cap, cur, h1, h2, h3, h4, h5, h6, h7⟩
  · exact Or.inl ⟨h1, List.eq_nil_of_length_eq_zero h2⟩
  · refine Or.inr ⟨g, cap, cur.toList.drop (l.length * 1), h1, h2, rfl, ?_⟩
    have : (([] : List Value) ++ l.toArray.toList.map encU ++ cur.toList.drop (l.length * 1)).toArray = cur := by
      have e : l.toArray.toList.map encU = cur.toList.take (l.length * 1) := by rw [h7]; rfl
      rw [e, List.nil_append, List.take_append_drop]
    rw [this]
    exact h3

set_option maxHeartbeats 2000000 in
set_option maxRecDepth 1000000 in
theorem sorted_any (Bm b nn : Nat) (D0 : DataW Unit) (hN : Maps.size D0 < 256) (w : World) (hBm : Bm < w.heap.size) (hm : w.cell? ⟨Bm, 0, none⟩ = some (.map (some b))) (hown : w.ownsMap Try.prog 23 ptrR b nn D0) :
    Calls Try.prog 36 #[.func (.func 45) #[] #[.pointer (some ⟨Bm, 0, none⟩)]] w fun e w' => ∃ v ss, e = .returned v ∧ Came D0 ss ∧ Words w' w.heap.size v (ss.mergeSort (fun x y => !ltInt y x)) ∧ Below w.heap.size w w' := by
  have HC := Lib.hid (callsIn_wide.1 (collect_any 5 (by decide) Bm b nn D0 (by omega) w hBm hm hown))
  clear hBm hm hown
  go_enter Try.func36, Try.ntmps36
  go_wp2_with (go_at_call 43; refine HC.out.mono ?_; rintro e w1 ⟨v, ss, rfl, hS, hrow, hb⟩; have hW := Words.of_own hrow; clear hrow; rcases hW with ⟨rfl, rfl⟩ | ⟨g, cap, R, rfl, hg, hR⟩)
  · go_wp2_with (go_at_call 44; refine (sort_nil _).mono ?_; rintro e w2 ⟨rfl, rfl⟩)
    go_ret
    exact ⟨_, [], rfl, hS, Or.inl ⟨rfl, by simp⟩, hb⟩
  · have hl : ss.length < 256 := by have := hS.2.1; omega
    have HS := Lib.hid (sort_any [] R g 0 cap ss.toArray w1 hR (by simpa using hl))
    simp only [List.size_toArray] at HS
    clear hl
    go_wp2_with (go_at_call 44; refine HS.out.mono ?_; rintro e w2 ⟨rfl, h1, h2⟩)
    go_ret
    exact ⟨_, ss, rfl, hS, Or.inr ⟨g, cap, R, by simp, hg, h1⟩, hb.grown h2 hb.size (fun k e => by cases e; exact hg)⟩

/-- The addresses of a space's pages, ascending. -/
def pagesOf (A : As) : List Int := ((List.range 4096).filter fun i => (A i).isSome).map fun (i : Nat) => 256 * (i : Int)
theorem mem_pagesOf (A : As) (x : Int) : x ∈ pagesOf A ↔ ∃ i : Nat, i < 4096 ∧ (A i).isSome = true ∧ x = 256 * (i : Int) := by
  unfold pagesOf
  simp only [List.mem_map, List.mem_filter, List.mem_range]
  constructor
  · rintro ⟨i, ⟨h1, h2⟩, rfl⟩; exact ⟨i, h1, h2, rfl⟩
  · rintro ⟨i, h1, h2, rfl⟩; exact ⟨i, ⟨h1, h2⟩, rfl⟩
theorem pagesOf_lt (A : As) : (pagesOf A).Pairwise (· < ·) := by
  unfold pagesOf
  rw [List.pairwise_map]
  refine List.Pairwise.imp ?_ (List.pairwise_lt_range.filter _)
  intro a c h
  omega
theorem sort_pages (A : As) (ss : List Int) (hn : ss.Nodup) (h : ∀ x, x ∈ ss ↔ x ∈ pagesOf A) : ss.mergeSort (fun x y => !ltInt y x) = pagesOf A := by
  have hp : (pagesOf A).Nodup := (pagesOf_lt A).imp (fun h => by omega)
  have hperm : ss.Perm (pagesOf A) := (List.perm_ext_iff_of_nodup hn hp).2 h
  have tr : ∀ a b c : Int, (!ltInt b a) = true → (!ltInt c b) = true → (!ltInt c a) = true := fun a b c h1 h2 => by simp [ltInt] at *; omega
  have tot : ∀ a b : Int, ((!ltInt b a) || (!ltInt a b)) = true := fun a b => by
    simp only [ltInt, Bool.or_eq_true, Bool.not_eq_true', decide_eq_false_iff_not]; omega
  refine List.Perm.eq_of_pairwise (le := fun a b => (!ltInt b a) = true) (fun a b _ _ h1 h2 => ?_) (List.pairwise_mergeSort tr tot ss) ((pagesOf_lt A).imp (fun h => by simp [ltInt]; omega)) ((List.mergeSort_perm ss _).trans hperm)
  simp [ltInt] at h1 h2
  omega

set_option maxHeartbeats 1000000 in
theorem keys_any (mb : Option Nat) (w : World) : Calls Try.prog 37 #[.map mb] w fun e w' => e = .returned (.func (.func 45) #[] #[.pointer (some ⟨w.heap.size, 0, none⟩)]) ∧ w' = w.alloc (.cells #[.map mb] 57) := by
  go_enter Try.func37, Try.ntmps37
  go_wp2
  go_ret
  exact ⟨rfl, rfl⟩

set_option maxHeartbeats 2000000 in
set_option maxRecDepth 1000000 in
theorem pages_any (b e n : Nat) (A : As) (w : World) (h : SpaceAt w b e n A) (hn : n < 256) :
    Calls Try.prog 18 #[.pointer (some ⟨b + 1, 0, none⟩)] w fun r w' => ∃ v, r = .returned v ∧ Words w' w.heap.size v (pagesOf A) ∧ Below w.heap.size w w' := by
  obtain ⟨pg, h⟩ := h
  have c := h.cell
  obtain ⟨D0, hown, hD⟩ := h.map
  have hB := Lib.hid ((Below.refl w.heap.size w).alloc (Nat.le_refl _) (.cells #[.map (some b)] 57))
  have HS := Lib.hid (sorted_any w.heap.size b n D0 (by have := hown.size_le; omega) (w.alloc (.cells #[.map (some b)] 57)) (by simp) (Boxed.new w 57 (.map (some b))).cell (hown.alloc _))
  have HK : Hid (∀ ss, Came D0 ss → ss.mergeSort (fun x y => !ltInt y x) = pagesOf A) := Lib.hid fun ss hC => sort_pages A ss hC.1 fun x => by
    rw [hC.2.2 x, mem_pagesOf]
    constructor
    · rintro ⟨h0, h1, h2⟩
      rw [(hD x h0 h1).2] at h2
      unfold pgk at h2
      split at h2
      · rename_i hx
        obtain ⟨p, hp⟩ := Option.isSome_iff_exists.1 h2
        obtain ⟨q1, _, _, f, q2, _⟩ := h.page _ p hp
        exact ⟨_, q1, by rw [q2]; rfl, by omega⟩
      · cases h2
    · rintro ⟨i, h1, h2, rfl⟩
      refine ⟨by omega, by omega, ?_⟩
      rw [(hD _ (by omega) (by omega)).2, pgk_at]
      cases hp : pg i with
      | none => rw [h.none i hp] at h2; cases h2
      | some p => rfl
  clear hown hD h hn
  go_enter Try.func18, Try.ntmps18
  go_wp2_with (first | (go_at_call 37; refine (keys_any _ _).mono ?_; rintro e w1 ⟨rfl, rfl⟩) | (go_at_call 36; refine HS.out.mono ?_; rintro e w2 ⟨v, ss, rfl, hS, hW, hb⟩))
  go_ret
  rw [HK.out _ hS] at hW
  exact ⟨v, rfl, hW.low (by simp), hB.out.trans (hb.mono (by simp))⟩
end Go.Proofs.Ytfickpjecehboaa
