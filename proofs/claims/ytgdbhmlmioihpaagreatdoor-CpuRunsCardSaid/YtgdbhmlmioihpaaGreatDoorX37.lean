/- Some texts of one proof, one behind the other; each has its own head below. -/
import Derived.Test.YtgdbhmlmioihpaaGreatDoorX05
import Derived.Test.YtgdbhmlmioihpaaGreatDoorX01
import Derived.Test.YtgdbhmlmioihpaaGreatDoorX35
import Derived.Test.YtgdbhmlmioihpaaGreatDoorX04
import Derived.Test.YtgdbhmlmioihpaaGreatDoorX07
import Derived.OwnWalk
import Derived.BigQuiet
import Derived.Maps.AppendAt
import Derived.Laws.AppendOwn
/- The document's own operations upon a space without pages; SameWords. -/
section
set_option linter.unusedVariables false
namespace Go.Proofs.YtgdbhmlmioihpaaGreatDoor
open Go.RowKit Go.Maps

set_option maxHeartbeats 1000000 in
set_option maxRecDepth 100000 in
theorem of_bare (g : Nat) (x : Int) (w : World) (h : Bare w g) : Calls Tryz.prog 50 #[.pointer (some ⟨g, 0, none⟩), .int .u64 x] w fun e w' => e = .returned (.pointer none) ∧ w' = w := by
  have c := Bare.cell0 h
  clear h
  go_enter Tryz.func50, Tryz.ntmps50
  go_wp2
  go_loopw [5] (fun vi wr => vi = .int .i64 0 ∧ wr = w) (fun _ _ => 0)
  case atStart => exact ⟨rfl, rfl⟩
  case round =>
    obtain ⟨rfl, rfl⟩ := hrel
    go_wp2
    go_ret
    exact ⟨rfl, rfl⟩

set_option maxHeartbeats 1000000 in
set_option maxRecDepth 100000 in
theorem rmay_any (x : Int) (w : World) : Calls Tryz.prog 49 #[.int .u32 x] w fun e w' => (∃ v, e = .returned (.bool v)) ∧ w' = w := by
  go_enter Tryz.func49, Tryz.ntmps49
  go_wp2
  all_goals (go_ret; exact ⟨⟨_, rfl⟩, rfl⟩)

set_option maxHeartbeats 2000000 in
set_option maxRecDepth 100000 in
theorem rmap_bare (g : Nat) (x p : Int) (w : World) (h : Bare w g) : Calls Tryz.prog 27 #[.pointer (some ⟨g, 0, none⟩), .int .u32 x, .int .u8 p] w fun e w' => (∃ v, e = .returned (.int .i64 v)) ∧ w.grownBy w' (some g) := by
  have c := Bare.cell0 h
  have fz : w.frozen? ⟨g, 0, none⟩ = false := Blk.frozen h 0
  have hg := Blk.lt h
  have H := Lib.hid h
  have HG := Lib.hid hg
  have hR := World.grownBy.refl w (some g)
  obtain ⟨i0, hi, hz0, hz1, hz2⟩ := info_parts info_u8
  obtain ⟨i1, hi1, hy0, hy1, hy2⟩ := info_parts info_prpage
  clear h hg
  have HM := rmay_any x w
  have HO := fun y => of_bare g y w H.out
  by_cases hp : (7 : Int) < p
  · have hd : decide ((7 : Int) < p) = true := by simpa using hp
    clear hp
    go_enter Tryz.func27, Tryz.ntmps27
    go_wp2_with (first
      | (go_at_call 49; refine HM.mono ?_; rintro e w' ⟨⟨v, rfl⟩, rfl⟩; cases v)
      | (go_at_call 50; refine (HO _).mono ?_; rintro e w' ⟨rfl, rfl⟩))
    all_goals (go_ret; exact ⟨⟨_, rfl⟩, hR⟩)
  · have hd : decide ((7 : Int) < p) = false := by simpa using hp
    clear hp
    go_enter Tryz.func27, Tryz.ntmps27
    go_wp2_with (first
      | (go_at_call 49; refine HM.mono ?_; rintro e w' ⟨⟨v, rfl⟩, rfl⟩; cases v)
      | (go_at_call 50; refine (HO _).mono ?_; rintro e w' ⟨rfl, rfl⟩))
    · go_ret
      exact ⟨⟨_, rfl⟩, hR⟩
    · go_loopw [7, 8, 9] (fun v7 v8 v9 wr => v7 = .slice none 0 0 ∧ v8 = .bool false ∧ v9 = .int .i64 0 ∧ wr = w') (fun _ _ _ _ => 0)
      case atStart => exact ⟨rfl, rfl, rfl, rfl⟩
      case round =>
        obtain ⟨rfl, rfl, rfl, rfl⟩ := hrel
        have HBz : i0.bytes * 256 ≤ 281474976710656 := by rw [hz2]; decide
        go_wp2_with (first
          | (at_make; refine wpList_make_full _ rfl _ _ 24 rfl 0 5 i0 (.int .u8 0) 1 Tryz.underlying24 hi hz0 hz1 .i64 .i64 _ _ 256 rfl rfl rfl rfl HBz (by decide) (Nat.zero_le _) ?_; intro w7 hown hgrow; have hb7 := Blk.grown H.out hgrow (by simp); have c7 := Bare.cell0 hb7; have fz7 := Blk.frozen hb7 0; have HG7 := Lib.hid hb7; have HGr := Lib.hid hgrow; have hlt7 := Blk.lt hb7; clear hown hgrow hb7)
          | (at_builtin; refine wpList_append_own _ rfl _ _ 66 rfl 0 87 i1 (.pointer none) 1 8 Tryz.underlying66 hi1 hy0 hy1 hy2 rfl (by decide) (.slice none 0 0) 0 [] rfl (World.ownsRow_nil _ _ _ _) ⟨w7.heap.size + 1, 0, none⟩ 1 1 [.pointer (some ⟨w7.heap.size, 0, none⟩)] rfl rfl (by have h := cell_one_new (w7.alloc (.cells #[.int .u32 x, .int .u8 p, .slice (some ⟨wr.heap.size, 0, none⟩) 256 256] 86)) (.pointer (some ⟨w7.heap.size, 0, none⟩)) 87; simpa using h) (by simp [Value.oneCell']) (by decide) (by decide) (Nat.zero_le _) ?_; intro v' w8 hown' hgrow' _; obtain ⟨g', cap', rfl⟩ := ownsRow_succ hown'; have hb8 := Blk.grown ((HG7.out.alloc _).alloc _) hgrow' (by simp [Value.ownBlock]); have c8 := Bare.cell0 hb8; have fz8 := Blk.frozen hb8 0; have HGr8 := Lib.hid hgrow'; clear hown' hgrow' hb8)
          | go_in)
        go_ret
        refine ⟨⟨_, rfl⟩, only_setCell (only_trans (only_trans (only_none HGr.out) (only_none ?_)) (only_none (show World.grownBy _ _ none from HGr8.out))) _ _⟩
        exact only_trans (World.grownBy_alloc _ _ none) (World.grownBy_alloc _ _ none)

set_option maxHeartbeats 2000000 in
set_option maxRecDepth 100000 in
theorem rput_bare (g : Nat) (x : Int) (s : ByteArray) (need : Int) (w : World) (h : Bare w g) : Calls Tryz.prog 30 #[.pointer (some ⟨g, 0, none⟩), .int .u32 x, .string s, .int .u8 need] w fun e w' => (∃ v, e = .returned (.int .i64 v)) ∧ w' = w := by
  have H := Lib.hid h
  clear h
  have HO := fun y => of_bare g y w H.out
  by_cases hs : (0 : Int) < (s.size : Int)
  · go_enter Tryz.func30, Tryz.ntmps30
    go_wp2
    go_loopw [9] (fun v9 wr => v9 = .int .i64 0 ∧ wr = w) (fun _ _ => 0)
    case atStart => exact ⟨rfl, rfl⟩
    case round =>
      obtain ⟨rfl, rfl⟩ := hrel
      go_wp2_with (go_at_call 50; refine (HO _).mono ?_; rintro e w' ⟨rfl, rfl⟩)
      go_ret
      exact ⟨⟨_, rfl⟩, rfl⟩
  · go_enter Tryz.func30, Tryz.ntmps30
    go_wp2
    go_loopw [9] (fun v9 wr => v9 = .int .i64 0 ∧ wr = w) (fun _ _ => 0)
    case atStart => exact ⟨rfl, rfl⟩
    case round =>
      obtain ⟨rfl, rfl⟩ := hrel
      go_wp2
      go_loopw [11] (fun v9 wr2 => v9 = .int .i64 0 ∧ wr2 = wr) (fun _ _ => 0)
      case atStart => exact ⟨rfl, rfl⟩
      case round =>
        obtain ⟨rfl, rfl⟩ := hrel
        go_wp2
        go_ret
        exact ⟨⟨_, rfl⟩, rfl⟩

set_option maxHeartbeats 2000000 in
set_option maxRecDepth 100000 in
theorem rget_bare (g : Nat) (x n : Int) (need : Int) (w : World) (h : Bare w g) : Calls Tryz.prog 33 #[.pointer (some ⟨g, 0, none⟩), .int .u32 x, .int .i64 n, .int .u8 need] w fun e w' => (∃ s v, e = .returned (.tuple #[.string s, .int .i64 v])) ∧ w' = w := by
  have H := Lib.hid h
  clear h
  have HO := fun y => of_bare g y w H.out
  by_cases h0 : n < 0
  · go_enter Tryz.func33, Tryz.ntmps33
    go_wp2
    go_ret2
    exact ⟨⟨_, _, rfl⟩, rfl⟩
  by_cases h1 : 1048576 < n
  · go_enter Tryz.func33, Tryz.ntmps33
    go_wp2
    go_ret2
    exact ⟨⟨_, _, rfl⟩, rfl⟩
  by_cases h2 : 0 < n
  · go_enter Tryz.func33, Tryz.ntmps33
    go_wp2
    go_loopw [10, 11] (fun v10 v9 wr => v10 = .slice none 0 0 ∧ v9 = .int .i64 0 ∧ wr = w) (fun _ _ _ => 0)
    case atStart => exact ⟨rfl, rfl, rfl⟩
    case round =>
      obtain ⟨rfl, rfl, rfl⟩ := hrel
      go_wp2_with (go_at_call 50; refine (HO _).mono ?_; rintro e w' ⟨rfl, rfl⟩)
      go_ret2
      exact ⟨⟨_, _, rfl⟩, rfl⟩
  · obtain rfl : n = 0 := by omega
    clear h0 h1 h2
    go_enter Tryz.func33, Tryz.ntmps33
    go_wp2
    go_loopw [10, 11] (fun v10 v9 wr => v10 = .slice none 0 0 ∧ v9 = .int .i64 0 ∧ wr = w) (fun _ _ _ => 0)
    case atStart => exact ⟨rfl, rfl, rfl⟩
    case round =>
      obtain ⟨rfl, rfl, rfl⟩ := hrel
      have conv := own_text (w := wr) (l := []) (B := 0) (v := .slice none 0 0) (World.ownsRow_nil wr 0 5 1)
      go_wp2
      go_ret2
      exact ⟨⟨_, _, rfl⟩, rfl⟩

/-! SameWords -/
set_option maxHeartbeats 2000000 in
set_option maxRecDepth 100000 in
theorem same_nil (w : World) : Calls Tryz.prog 19 #[.slice none 0 0, .slice none 0 0] w fun e w' => e = .returned (.bool true) ∧ ∃ n, w' = w.drewN n := by
  go_enter Tryz.func19, Tryz.ntmps19
  go_wp2
  go_loopw [5] (fun v wr => v = .int .i64 0 ∧ wr = w) (fun _ _ => 0)
  case atStart => exact ⟨rfl, rfl⟩
  case round =>
    obtain ⟨rfl, rfl⟩ := hrel
    go_wp2
    go_ret
    exact ⟨rfl, 0, rfl⟩

set_option maxHeartbeats 2000000 in
set_option maxRecDepth 100000 in
theorem same_row (g g' cap cap' : Nat) (R R' : List Value) (d : Array Int) (w : World) (h : Row [] R w g 0 d) (h' : Row [] R' w g' 0 d) (hd : d.size < 1099511627776) :
    Calls Tryz.prog 19 #[.slice (some ⟨g, 0, none⟩) d.size cap, .slice (some ⟨g', 0, none⟩) d.size cap'] w fun e w' => e = .returned (.bool true) ∧ ∃ n, w' = w.drewN n := by
  have H := Lib.hid h
  have H' := Lib.hid h'
  clear h h'
  go_enter Tryz.func19, Tryz.ntmps19
  go_wp2
  go_loopw [5] (fun v wr => ∃ (i : Nat), v = .int .i64 i ∧ i ≤ d.size ∧ Hid (∃ q, wr = w.drewN q)) (fun v _ => d.size - (intOf v).toNat)
  case atStart => exact ⟨0, rfl, Nat.zero_le _, Lib.hid ⟨0, rfl⟩⟩
  case round =>
    obtain ⟨i, rfl, hi, HQ⟩ := hrel
    by_cases hl : i < d.size
    · have c1 : wr.cell? ⟨g, i, none⟩ = some (.int .u32 d[i]!) := by
        obtain ⟨q, rfl⟩ := HQ.out
        have := H.out.cell i hl; rw [Nat.zero_add] at this; exact this
      have c2 : wr.cell? ⟨g', i, none⟩ = some (.int .u32 d[i]!) := by
        obtain ⟨q, rfl⟩ := HQ.out
        have := H'.out.cell i hl; rw [Nat.zero_add] at this; exact this
      obtain ⟨X, hX⟩ : ∃ X, X = d[i]! := ⟨_, rfl⟩
      rw [← hX] at c1 c2
      clear hX
      have hl' : (i : Int) < (d.size : Int) := by omega
      go_wp2_with fail
      go_quiet (fail)
      go_wp2_with fail
      go_roundw
      case rel => exact ⟨i + 1, by go_num, by omega, Lib.hid (by obtain ⟨q, hq⟩ := HQ.out; exact ⟨q + nq, by rw [hq]; exact drewN_add _ _ _⟩)⟩
      case measure => simp [intOf]; omega
    · obtain rfl : i = d.size := by omega
      go_wp2_with fail
      go_ret
      exact ⟨rfl, HQ.out⟩
end Go.Proofs.YtgdbhmlmioihpaaGreatDoor
end

/- SameWords. -/
section
set_option linter.unusedVariables false
namespace Go.Proofs.YtgdbhmlmioihpaaGreatDoor
open Go.RowKit Go.Maps

set_option maxHeartbeats 2000000 in
set_option maxRecDepth 100000 in
theorem same_empty (a a' : Option Addr) (c c' : Nat) (w : World) : Calls Tryz.prog 19 #[.slice a 0 c, .slice a' 0 c'] w fun e w' => e = .returned (.bool true) ∧ ∃ n, w' = w.drewN n := by
  go_enter Tryz.func19, Tryz.ntmps19
  go_wp2
  go_loopw [5] (fun v wr => v = .int .i64 0 ∧ wr = w) (fun _ _ => 0)
  case atStart => exact ⟨rfl, rfl⟩
  case round =>
    obtain ⟨rfl, rfl⟩ := hrel
    go_wp2
    go_ret
    exact ⟨rfl, 0, rfl⟩
/-- Two rows of the same numbers. -/
theorem same_words {w : World} {b b' : Nat} {v v' : Value} {l : List Int} (h : Words w b v l) (h' : Words w b' v' l) (hl : l.length < 1099511627776) :
    Calls Tryz.prog 19 #[v, v'] w fun e w' => e = .returned (.bool true) ∧ ∃ n, w' = w.drewN n := by
  rcases h with ⟨rfl, rfl⟩ | ⟨g, cap, R, rfl, _, hR⟩
  · rcases h' with ⟨rfl, _⟩ | ⟨g', cap', R', rfl, _, hR'⟩
    · exact same_nil w
    · exact same_empty none (some ⟨g', 0, none⟩) 0 cap' w
  · rcases h' with ⟨rfl, rfl⟩ | ⟨g', cap', R', rfl, _, hR'⟩
    · exact same_empty (some ⟨g, 0, none⟩) none cap 0 w
    · exact same_row g g' cap cap' R R' l.toArray w hR hR' (by simpa using hl)
end Go.Proofs.YtgdbhmlmioihpaaGreatDoor
end
