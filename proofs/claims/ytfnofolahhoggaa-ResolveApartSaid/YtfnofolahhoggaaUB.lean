/- The table: winner, enter. -/
import Derived.Test.YtfnofolahhoggaaUA
set_option linter.unusedVariables false
set_option linter.unusedSimpArgs false
namespace Go.Proofs.Ytfnofolahhoggaa
open Go Go.RowKit Go.Maps Oj Rv

theorem plV_some (p : Nat × Nat) : plV (some p) = .agg #[.int .i64 (p.1 : Int), .int .i64 (p.2 : Int)] := rfl
set_option maxHeartbeats 4000000 in
set_option maxRecDepth 100000 in
theorem winner_any (b n : Nat) (M : List UInt8 → Option ((Nat × Nat) × Bool)) (t : ByteArray) (ht : t.size ≤ 140737488355328) (w : World) (h : EntIs w b n M) :
    Calls Try.prog 29 #[.map (some b), .string t] w fun e w' => e = .returned (plT ((M (by' t)).map (·.1))) ∧ Below w.heap.size w w' := by
  have hlk := (h.below (below_new1 w (.cells #[.int .i64 0, .int .i64 0] 24))).look t ht
  obtain ⟨o, ho⟩ : ∃ o, o = M (by' t) := ⟨_, rfl⟩
  rw [← ho] at hlk ⊢
  obtain ⟨x, hx⟩ : ∃ x : Int, x = ((o.getD ((0, 0), false)).1.1 : Int) := ⟨_, rfl⟩
  obtain ⟨y, hy⟩ : ∃ y : Int, y = ((o.getD ((0, 0), false)).1.2 : Int) := ⟨_, rfl⟩
  obtain ⟨st, hst⟩ : ∃ st, st = (o.getD ((0, 0), false)).2 := ⟨_, rfl⟩
  obtain ⟨B, hB⟩ : ∃ B, B = o.isSome := ⟨_, rfl⟩
  unfold enV at hlk
  rw [← hx, ← hy, ← hst, ← hB] at hlk
  have HP : Hid (Value.tuple #[.agg #[.int .i64 x, .int .i64 y], .bool B] = plT (o.map (·.1))) := Lib.hid (by
    unfold plT plV
    rw [hx, hy, hB]
    cases o <;> rfl)
  clear hx hy hst hB ho h
  go_enter Try.func29, Try.ntmps29
  go_wp2_with fail
  refine bodyPost_ret (res_pl_tmp Try.results29 _ _ w.heap.size _ _ _ rfl rfl ((Blk.new w 24 [.int .i64 x, .int .i64 y]).alloc _)) rfl ⟨congrArg Ending.returned HP.out, below_box (below_new1 w _) _⟩

/-- What enter leaves. -/
def EnP (w : World) (b n : Nat) (r : Int) (M : List UInt8 → Option ((Nat × Nat) × Bool)) (e : Ending) (w' : World) : Prop := e = .returned (.int .i64 r) ∧ EntIs w' b (n + 1) M ∧ w.grownBy w' (some b)

set_option maxHeartbeats 4000000 in
set_option maxRecDepth 100000 in
theorem enter_loc (b n : Nat) (M : List UInt8 → Option ((Nat × Nat) × Bool)) (U u4 : ByteArray) (u2 u3 : Int) (ra na : Option Addr) (rn rc nn nc : Nat) (p : Nat × Nat) (hU : U.size ≤ 140737488355328) (hn : n < maxLen) (w : World) (h : EntIs w b n M) :
    Calls Try.prog 33 #[.map (some b), .agg #[.string U, .int .u8 0, .int .u8 u2, .int .u32 u3, .string u4, .slice ra rn rc, .slice na nn nc], .agg #[.int .i64 (p.1 : Int), .int .i64 (p.2 : Int)]] w (EnP w b n 0 M) := by
  have HU := Lib.hid hU
  have HN := Lib.hid hn
  have HE1 := Lib.hid ((h.below (below_new1 w (.cells #[.string U, .int .u8 0, .int .u8 u2, .int .u32 u3, .string u4, .slice ra rn rc, .slice na nn nc] 50))).below (below_new1 _ (.cells #[.int .i64 (p.1 : Int), .int .i64 (p.2 : Int)] 24)))
  have HB1 := Lib.hid (below_box (below_new1 w (.cells #[.string U, .int .u8 0, .int .u8 u2, .int .u32 u3, .string u4, .slice ra rn rc, .slice na nn nc] 50)) (.cells #[.int .i64 (p.1 : Int), .int .i64 (p.2 : Int)] 24))
  clear hU hn h
  go_enter Try.func33, Try.ntmps33
  go_wp2_with fail
  go_ret
  exact ⟨rfl, HE1.out.mono (Nat.le_succ n), gb_of HB1.out (some b)⟩

set_option maxHeartbeats 4000000 in
set_option maxRecDepth 100000 in
theorem enter_new1 (b n : Nat) (M : List UInt8 → Option ((Nat × Nat) × Bool)) (U u4 : ByteArray) (u2 u3 : Int) (ra na : Option Addr) (rn rc nn nc : Nat) (p : Nat × Nat) (hU : U.size ≤ 140737488355328) (hn : n < maxLen) (hM : M (by' U) = none) (w : World) (h : EntIs w b n M) :
    Calls Try.prog 33 #[.map (some b), .agg #[.string U, .int .u8 1, .int .u8 u2, .int .u32 u3, .string u4, .slice ra rn rc, .slice na nn nc], .agg #[.int .i64 (p.1 : Int), .int .i64 (p.2 : Int)]] w (EnP w b n 0 (fun u => if u = by' U then some (p, true) else M u)) := by
  have HU := Lib.hid hU
  have HN := Lib.hid hn
  have HE1 := Lib.hid ((h.below (below_new1 w (.cells #[.string U, .int .u8 1, .int .u8 u2, .int .u32 u3, .string u4, .slice ra rn rc, .slice na nn nc] 50))).below (below_new1 _ (.cells #[.int .i64 (p.1 : Int), .int .i64 (p.2 : Int)] 24)))
  have HB1 := Lib.hid (below_box (below_new1 w (.cells #[.string U, .int .u8 1, .int .u8 u2, .int .u32 u3, .string u4, .slice ra rn rc, .slice na nn nc] 50)) (.cells #[.int .i64 (p.1 : Int), .int .i64 (p.2 : Int)] 24))
  have hlk := HE1.out.look U hU
  rw [hM] at hlk
  unfold enV at hlk
  simp only [Option.getD_none, Option.getD_some, Option.isSome_none, Option.isSome_some] at hlk
  have HE2 := Lib.hid (HE1.out.below (below_new1 _ (.cells #[.int .i64 ((0 : Nat) : Int), .int .i64 ((0 : Nat) : Int), .bool false] 78)))
  have HB2 := Lib.hid (below_box HB1.out (.cells #[.int .i64 ((0 : Nat) : Int), .int .i64 ((0 : Nat) : Int), .bool false] 78))
  clear hU hn h hM
  go_enter Try.func33, Try.ntmps33
  go_wp2_with (at_mapUpdate; refine wpList_ent rfl _ _ _ rfl b n p true M rfl HE2.out HN.out U HU.out rfl rfl ?_; intro w6 hl6 hg6)
  go_ret
  exact ⟨rfl, hl6, (gb_of HB2.out (some b)).trans hg6⟩

set_option maxHeartbeats 4000000 in
set_option maxRecDepth 100000 in
theorem enter_new2 (b n : Nat) (M : List UInt8 → Option ((Nat × Nat) × Bool)) (U u4 : ByteArray) (u2 u3 : Int) (ra na : Option Addr) (rn rc nn nc : Nat) (p : Nat × Nat) (hU : U.size ≤ 140737488355328) (hn : n < maxLen) (hM : M (by' U) = none) (w : World) (h : EntIs w b n M) :
    Calls Try.prog 33 #[.map (some b), .agg #[.string U, .int .u8 2, .int .u8 u2, .int .u32 u3, .string u4, .slice ra rn rc, .slice na nn nc], .agg #[.int .i64 (p.1 : Int), .int .i64 (p.2 : Int)]] w (EnP w b n 0 (fun u => if u = by' U then some (p, false) else M u)) := by
  have HU := Lib.hid hU
  have HN := Lib.hid hn
  have HE1 := Lib.hid ((h.below (below_new1 w (.cells #[.string U, .int .u8 2, .int .u8 u2, .int .u32 u3, .string u4, .slice ra rn rc, .slice na nn nc] 50))).below (below_new1 _ (.cells #[.int .i64 (p.1 : Int), .int .i64 (p.2 : Int)] 24)))
  have HB1 := Lib.hid (below_box (below_new1 w (.cells #[.string U, .int .u8 2, .int .u8 u2, .int .u32 u3, .string u4, .slice ra rn rc, .slice na nn nc] 50)) (.cells #[.int .i64 (p.1 : Int), .int .i64 (p.2 : Int)] 24))
  have hlk := HE1.out.look U hU
  rw [hM] at hlk
  unfold enV at hlk
  simp only [Option.getD_none, Option.getD_some, Option.isSome_none, Option.isSome_some] at hlk
  have HE2 := Lib.hid (HE1.out.below (below_new1 _ (.cells #[.int .i64 ((0 : Nat) : Int), .int .i64 ((0 : Nat) : Int), .bool false] 78)))
  have HB2 := Lib.hid (below_box HB1.out (.cells #[.int .i64 ((0 : Nat) : Int), .int .i64 ((0 : Nat) : Int), .bool false] 78))
  clear hU hn h hM
  go_enter Try.func33, Try.ntmps33
  go_wp2_with (at_mapUpdate; refine wpList_ent rfl _ _ _ rfl b n p false M rfl HE2.out HN.out U HU.out rfl rfl ?_; intro w6 hl6 hg6)
  go_ret
  exact ⟨rfl, hl6, (gb_of HB2.out (some b)).trans hg6⟩

set_option maxHeartbeats 4000000 in
set_option maxRecDepth 100000 in
theorem enter_over (b n : Nat) (M : List UInt8 → Option ((Nat × Nat) × Bool)) (U u4 : ByteArray) (u2 u3 : Int) (ra na : Option Addr) (rn rc nn nc : Nat) (p : Nat × Nat) (hU : U.size ≤ 140737488355328) (hn : n < maxLen) (hM : ∃ q, M (by' U) = some (q, false)) (w : World) (h : EntIs w b n M) :
    Calls Try.prog 33 #[.map (some b), .agg #[.string U, .int .u8 1, .int .u8 u2, .int .u32 u3, .string u4, .slice ra rn rc, .slice na nn nc], .agg #[.int .i64 (p.1 : Int), .int .i64 (p.2 : Int)]] w (EnP w b n 0 (fun u => if u = by' U then some (p, true) else M u)) := by
  have HU := Lib.hid hU
  have HN := Lib.hid hn
  have HE1 := Lib.hid ((h.below (below_new1 w (.cells #[.string U, .int .u8 1, .int .u8 u2, .int .u32 u3, .string u4, .slice ra rn rc, .slice na nn nc] 50))).below (below_new1 _ (.cells #[.int .i64 (p.1 : Int), .int .i64 (p.2 : Int)] 24)))
  have HB1 := Lib.hid (below_box (below_new1 w (.cells #[.string U, .int .u8 1, .int .u8 u2, .int .u32 u3, .string u4, .slice ra rn rc, .slice na nn nc] 50)) (.cells #[.int .i64 (p.1 : Int), .int .i64 (p.2 : Int)] 24))
  have hlk := HE1.out.look U hU
  obtain ⟨q, hM⟩ := hM
  rw [hM] at hlk
  unfold enV at hlk
  simp only [Option.getD_none, Option.getD_some, Option.isSome_none, Option.isSome_some] at hlk
  have HE2 := Lib.hid (HE1.out.below (below_new1 _ (.cells #[.int .i64 (q.1 : Int), .int .i64 (q.2 : Int), .bool false] 78)))
  have HB2 := Lib.hid (below_box HB1.out (.cells #[.int .i64 (q.1 : Int), .int .i64 (q.2 : Int), .bool false] 78))
  clear hU hn h hM
  go_enter Try.func33, Try.ntmps33
  go_wp2_with (at_mapUpdate; refine wpList_ent rfl _ _ _ rfl b n p true M rfl HE2.out HN.out U HU.out rfl rfl ?_; intro w6 hl6 hg6)
  go_ret
  exact ⟨rfl, hl6, (gb_of HB2.out (some b)).trans hg6⟩

set_option maxHeartbeats 4000000 in
set_option maxRecDepth 100000 in
theorem enter_dup (b n : Nat) (M : List UInt8 → Option ((Nat × Nat) × Bool)) (U u4 : ByteArray) (u2 u3 : Int) (ra na : Option Addr) (rn rc nn nc : Nat) (p : Nat × Nat) (hU : U.size ≤ 140737488355328) (hn : n < maxLen) (hM : ∃ q, M (by' U) = some (q, true)) (w : World) (h : EntIs w b n M) :
    Calls Try.prog 33 #[.map (some b), .agg #[.string U, .int .u8 1, .int .u8 u2, .int .u32 u3, .string u4, .slice ra rn rc, .slice na nn nc], .agg #[.int .i64 (p.1 : Int), .int .i64 (p.2 : Int)]] w (EnP w b n 120 M) := by
  have HU := Lib.hid hU
  have HN := Lib.hid hn
  have HE1 := Lib.hid ((h.below (below_new1 w (.cells #[.string U, .int .u8 1, .int .u8 u2, .int .u32 u3, .string u4, .slice ra rn rc, .slice na nn nc] 50))).below (below_new1 _ (.cells #[.int .i64 (p.1 : Int), .int .i64 (p.2 : Int)] 24)))
  have HB1 := Lib.hid (below_box (below_new1 w (.cells #[.string U, .int .u8 1, .int .u8 u2, .int .u32 u3, .string u4, .slice ra rn rc, .slice na nn nc] 50)) (.cells #[.int .i64 (p.1 : Int), .int .i64 (p.2 : Int)] 24))
  have hlk := HE1.out.look U hU
  obtain ⟨q, hM⟩ := hM
  rw [hM] at hlk
  unfold enV at hlk
  simp only [Option.getD_none, Option.getD_some, Option.isSome_none, Option.isSome_some] at hlk
  have HE2 := Lib.hid (HE1.out.below (below_new1 _ (.cells #[.int .i64 (q.1 : Int), .int .i64 (q.2 : Int), .bool true] 78)))
  have HB2 := Lib.hid (below_box HB1.out (.cells #[.int .i64 (q.1 : Int), .int .i64 (q.2 : Int), .bool true] 78))
  clear hU hn h hM
  go_enter Try.func33, Try.ntmps33
  go_wp2_with fail
  go_ret
  exact ⟨rfl, HE2.out.mono (Nat.le_succ n), gb_of HB2.out (some b)⟩

set_option maxHeartbeats 4000000 in
set_option maxRecDepth 100000 in
theorem enter_keep (b n : Nat) (M : List UInt8 → Option ((Nat × Nat) × Bool)) (U u4 : ByteArray) (u2 u3 : Int) (ra na : Option Addr) (rn rc nn nc : Nat) (p : Nat × Nat) (hU : U.size ≤ 140737488355328) (hn : n < maxLen) (hM : ∃ q s, M (by' U) = some (q, s)) (w : World) (h : EntIs w b n M) :
    Calls Try.prog 33 #[.map (some b), .agg #[.string U, .int .u8 2, .int .u8 u2, .int .u32 u3, .string u4, .slice ra rn rc, .slice na nn nc], .agg #[.int .i64 (p.1 : Int), .int .i64 (p.2 : Int)]] w (EnP w b n 0 M) := by
  have HU := Lib.hid hU
  have HN := Lib.hid hn
  have HE1 := Lib.hid ((h.below (below_new1 w (.cells #[.string U, .int .u8 2, .int .u8 u2, .int .u32 u3, .string u4, .slice ra rn rc, .slice na nn nc] 50))).below (below_new1 _ (.cells #[.int .i64 (p.1 : Int), .int .i64 (p.2 : Int)] 24)))
  have HB1 := Lib.hid (below_box (below_new1 w (.cells #[.string U, .int .u8 2, .int .u8 u2, .int .u32 u3, .string u4, .slice ra rn rc, .slice na nn nc] 50)) (.cells #[.int .i64 (p.1 : Int), .int .i64 (p.2 : Int)] 24))
  have hlk := HE1.out.look U hU
  obtain ⟨q, st, hM⟩ := hM
  rw [hM] at hlk
  unfold enV at hlk
  simp only [Option.getD_none, Option.getD_some, Option.isSome_none, Option.isSome_some] at hlk
  have HE2 := Lib.hid (HE1.out.below (below_new1 _ (.cells #[.int .i64 (q.1 : Int), .int .i64 (q.2 : Int), .bool st] 78)))
  have HB2 := Lib.hid (below_box HB1.out (.cells #[.int .i64 (q.1 : Int), .int .i64 (q.2 : Int), .bool st] 78))
  clear hU hn h hM
  go_enter Try.func33, Try.ntmps33
  go_wp2_with fail
  go_ret
  exact ⟨rfl, HE2.out.mono (Nat.le_succ n), gb_of HB2.out (some b)⟩
end Go.Proofs.Ytfnofolahhoggaa
