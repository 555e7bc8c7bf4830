/- A step of a script, of a space and of the document's: both answer the same. (Written by mk_ek.py.) -/
import Derived.Test.YtfickpjecehboaaEJ
import Derived.Deep.RegionHeld3
set_option linter.unusedVariables false
namespace Go.Proofs.Ytfickpjecehboaa
open Go.RowKit Go.Maps

/-- A space and the document's, beside a step. -/
structure St2 (w0 : World) (B b n g k : Nat) (cs : List Value) (A1 A2 : As) (w : World) : Prop where
  sp : ∃ e, SpaceAt w b e n A1
  rf : RefAt w B g A2
  box : Blk w k 34 cs
  low : Below B w0 w
  big : B ≤ w.heap.size
  bb : B ≤ b
section
variable {w0 w w' : World} {B b n n' g k e : Nat} {cs : List Value} {A1 A2 A3 : As}
theorem St2.drew (h : St2 w0 B b n g k cs A1 A2 w) : St2 w0 B b n g k cs A1 A2 w.drew := by
  have hd : Below w.heap.size w w.drew := (Below.refl _ _).drew
  obtain ⟨e, h1⟩ := h.sp
  exact ⟨⟨e, h1.below hd h1.hi⟩, h.rf.below hd, h.box, h.low.drew, h.big, h.bb⟩
theorem St2.turn (h : St2 w0 B b n g k cs A1 A2 w) (hs : SpaceAt w b e n A1) (ht : Turn w w' b e) (h2 : ∃ e2, SpaceAt w' b e2 n' A3) : St2 w0 B b n' g k cs A3 A2 w' :=
  ⟨h2, h.rf.turn ht hs, ht.keep hs h.box (by decide), h.low.trans (ht.below h.bb h.big), Nat.le_trans h.big ht.size, h.bb⟩
theorem St2.ref (h : St2 w0 B b n g k cs A1 A2 w) (h2 : RefAt w' B g A3) (ht : RTurn B w w') : St2 w0 B b n g k cs A1 A3 w' := by
  obtain ⟨e, h1⟩ := h.sp
  exact ⟨⟨e, ht.space h1⟩, h2, ht.keep h.box (by decide) (by decide), h.low.trans (ht.below h.big), Nat.le_trans h.big ht.size, h.bb⟩
theorem St2.below (h : St2 w0 B b n g k cs A1 A2 w) (hb : Below w.heap.size w w') : St2 w0 B b n g k cs A1 A2 w' := by
  obtain ⟨e, h1⟩ := h.sp
  exact ⟨⟨e, h1.below hb h1.hi⟩, h.rf.below hb, h.box.below hb h.box.lt, h.low.trans (hb.mono h.big), Nat.le_trans h.big hb.size, h.bb⟩
theorem St2.start (h1 : SpaceAt w b e n A1) (h2 : RefAt w B g A1) (hB : B ≤ b) {x y z u : Value} : St2 w B b n g w.heap.size [x, y, z, u] A1 A1 (w.alloc (.cells #[x, y, z, u] 34)) := by
  have hhi := h1.hi
  have hlo := h1.lo
  have hb : Below w.heap.size w (w.alloc (.cells #[x, y, z, u] 34)) := (Below.refl _ _).alloc (Nat.le_refl _) _
  exact ⟨⟨e, h1.below hb hhi⟩, h2.below hb, Blk.new w _ _, hb.mono (by omega), by simp; omega, hB⟩
end
set_option maxHeartbeats 1000000 in
theorem texts_same (a : ByteArray) (x : Int) (w : World) : Calls Try.prog 30 #[.string a, .int .i64 x, .string a, .int .i64 x] w fun e w' => e = .returned (.bool true) ∧ w' = w := by
  go_enter Try.func30, Try.ntmps30
  go_wp2
  all_goals (go_ret; exact ⟨rfl, rfl⟩)


set_option maxHeartbeats 4000000 in
set_option maxRecDepth 100000 in
theorem does2_map (B b e n g : Nat) (A : As) (ad : Nat) (op m : Int) (tx : ByteArray) (hn : n < 1099511627776) (had : ad < 4294967296) (htx : tx.size ≤ 65536) (hop : op = 0) (w : World) (h : SpaceAt w b e n A) (hr : RefAt w B g A) (hB : B ≤ b) :
    Calls Try.prog 10 #[.pointer (some ⟨b + 1, 0, none⟩), .pointer (some ⟨g, 0, none⟩), .agg #[.int .i64 op, .int .u32 (ad : Int), .int .i64 m, .string tx]] w fun r w' => r = .returned (.bool true) ∧ (∃ e2 A2, SpaceAt w' b e2 (n + 1) A2 ∧ RefAt w' B g A2) ∧ Below B w w' := by
  obtain ⟨cs, hcs⟩ : ∃ cs, cs = [Value.int .i64 op, .int .u32 (ad : Int), .int .i64 m, .string tx] := ⟨_, rfl⟩
  have HS : Hid (St2 w B b n g w.heap.size cs A A (w.alloc (.cells #[.int .i64 op, .int .u32 (ad : Int), .int .i64 m, .string tx] 34))) := Lib.hid (by rw [hcs]; exact St2.start h hr hB)
  obtain ⟨E, hE⟩ : ∃ E : Nat → Int, E = fun pm => mapE A ad pm := ⟨_, rfl⟩
  obtain ⟨A3, hA3⟩ : ∃ A3 : Nat → As, A3 = fun pm => mapA A ad pm := ⟨_, rfl⟩
  have HM : Hid (∀ pm : Nat, pm < 256 → ∀ w1, St2 w B b n g w.heap.size cs A A w1 → Calls Try.prog 21 #[.pointer (some ⟨b + 1, 0, none⟩), .int .u32 (ad : Int), .int .u8 (pm : Int)] w1 fun r w' => r = .returned (.int .i64 (E pm)) ∧ St2 w B b (n + 1) g w.heap.size cs (A3 pm) A w') := Lib.hid fun pm hpm w1 h1 => by rw [hE, hA3]; obtain ⟨e1, hs⟩ := h1.sp; exact (map_any b e1 n hn A ad pm had hpm w1 hs).mono (by rintro r w' ⟨rfl, ⟨e2, _, h3⟩, ht⟩; exact ⟨rfl, h1.turn hs ht ⟨e2, h3⟩⟩)
  have HR : Hid (∀ pm : Nat, pm < 256 → ∀ w1, St2 w B b (n + 1) g w.heap.size cs (A3 pm) A w1 → Calls Try.prog 26 #[.pointer (some ⟨g, 0, none⟩), .int .u32 (ad : Int), .int .u8 (pm : Int)] w1 fun r w' => r = .returned (.int .i64 (E pm)) ∧ St2 w B b (n + 1) g w.heap.size cs (A3 pm) (A3 pm) w') := Lib.hid fun pm hpm w1 h1 => by rw [hE]; exact (rmap_any B g A ad pm had hpm w1 h1.rf h1.big).mono (by rintro r w' ⟨rfl, h2, ht⟩; exact ⟨rfl, h1.ref (by rw [hA3]; exact h2) ht⟩)
  clear hE hA3
  have HC : Hid (∀ w1, Blk w1 w.heap.size 34 cs → w1.cell? ⟨w.heap.size, 0, none⟩ = some (.int .i64 op) ∧ w1.cell? ⟨w.heap.size, 1, none⟩ = some (.int .u32 (ad : Int)) ∧ w1.cell? ⟨w.heap.size, 2, none⟩ = some (.int .i64 m) ∧ w1.cell? ⟨w.heap.size, 3, none⟩ = some (.string tx)) := Lib.hid fun w1 h1 => by
    rw [h1.cell, h1.cell, h1.cell, h1.cell, hcs]; exact ⟨rfl, rfl, rfl, rfl⟩
  have HF : Hid (∀ w' A3, St2 w B b (n + 1) g w.heap.size cs A3 A3 w' → (∃ e2 A2, SpaceAt w' b e2 (n + 1) A2 ∧ RefAt w' B g A2) ∧ Below B w w') := Lib.hid fun w' A3 h => by
    obtain ⟨e2, h1⟩ := h.sp
    exact ⟨⟨e2, A3, h1, h.rf⟩, h.low⟩
  clear hn had h hr hB hcs htx
  subst hop
  go_enter Try.func10, Try.ntmps10

  go_wp2_with fail
  obtain ⟨k, hk⟩ : ∃ k, k = w.heap.size := ⟨_, rfl⟩
  rw [← hk] at HS HM HR HC HF
  simp only [← hk]
  obtain ⟨wb, hwb⟩ : ∃ wb, wb = w.alloc (.cells #[.int .i64 0, .int .u32 (ad : Int), .int .i64 m, .string tx] 34) := ⟨_, rfl⟩
  rw [← hwb] at HS ⊢
  clear hwb hk
  obtain ⟨V, hV⟩ : ∃ V, bits BinOp.and IntKind.i64 m 255 = V := ⟨_, rfl⟩
  obtain ⟨pm, hpm⟩ : ∃ pm : Nat, V % 256 = (pm : Int) := ⟨(V % 256).toNat, by omega⟩
  have hW : IntKind.u8.wrap V = (pm : Int) := by rw [IntKind.wrap_u8', hpm]
  have HPM : Hid (pm < 256) := Lib.hid (by omega)
  replace HS := Lib.hid HS.out.drew
  have hS0 := HC.out _ HS.out.box
  go_region_held3 (fun w' => w'.cell? ⟨k, 0, none⟩ = some (.int .i64 0) ∧ w'.cell? ⟨k, 1, none⟩ = some (.int .u32 (ad : Int)) ∧ w'.cell? ⟨k, 2, none⟩ = some (.int .i64 m) ∧ w'.cell? ⟨k, 3, none⟩ = some (.string tx))
    (first | exact hS0 | exact hS1 | exact hS2)
    ((first
      | (go_at_call 21; refine (HM.out pm HPM.out _ HS.out).mono ?_; rintro r w1 ⟨rfl, h1⟩; have HS1 := Lib.hid h1; have hS1 := HC.out _ h1.box; clear h1)
      | (go_at_call 26; refine (HR.out pm HPM.out _ HS1.out).mono ?_; rintro r w2 ⟨rfl, h2⟩; have HS2 := Lib.hid h2; have hS2 := HC.out _ h2.box; clear h2)))
  go_wp2
  go_ret
  exact ⟨rfl, HF.out _ _ HS2.out⟩


set_option maxHeartbeats 4000000 in
set_option maxRecDepth 100000 in
theorem does2_unmap (B b e n g : Nat) (A : As) (ad : Nat) (op m : Int) (tx : ByteArray) (hn : n < 1099511627776) (had : ad < 4294967296) (htx : tx.size ≤ 65536) (hop : op = 1) (w : World) (h : SpaceAt w b e n A) (hr : RefAt w B g A) (hB : B ≤ b) :
    Calls Try.prog 10 #[.pointer (some ⟨b + 1, 0, none⟩), .pointer (some ⟨g, 0, none⟩), .agg #[.int .i64 op, .int .u32 (ad : Int), .int .i64 m, .string tx]] w fun r w' => r = .returned (.bool true) ∧ (∃ e2 A2, SpaceAt w' b e2 (n + 1) A2 ∧ RefAt w' B g A2) ∧ Below B w w' := by
  obtain ⟨cs, hcs⟩ : ∃ cs, cs = [Value.int .i64 op, .int .u32 (ad : Int), .int .i64 m, .string tx] := ⟨_, rfl⟩
  have HS : Hid (St2 w B b n g w.heap.size cs A A (w.alloc (.cells #[.int .i64 op, .int .u32 (ad : Int), .int .i64 m, .string tx] 34))) := Lib.hid (by rw [hcs]; exact St2.start h hr hB)
  obtain ⟨E, hE⟩ : ∃ E, E = unmapE A ad := ⟨_, rfl⟩
  obtain ⟨A3, hA3⟩ : ∃ A3, A3 = unmapA A ad := ⟨_, rfl⟩
  have HM : Hid (∀ w1, St2 w B b n g w.heap.size cs A A w1 → Calls Try.prog 25 #[.pointer (some ⟨b + 1, 0, none⟩), .int .u32 (ad : Int)] w1 fun r w' => r = .returned (.int .i64 E) ∧ St2 w B b (n + 1) g w.heap.size cs A3 A w') := Lib.hid fun w1 h1 => by rw [hE, hA3]; obtain ⟨e1, hs⟩ := h1.sp; exact (unmap_any b e1 n A ad had w1 hs).mono (by rintro r w' ⟨rfl, h3, ht⟩; exact ⟨rfl, h1.turn hs ht ⟨e1, h3.mono (Nat.le_succ _)⟩⟩)
  have HR : Hid (∀ w1, St2 w B b (n + 1) g w.heap.size cs A3 A w1 → Calls Try.prog 27 #[.pointer (some ⟨g, 0, none⟩), .int .u32 (ad : Int)] w1 fun r w' => r = .returned (.int .i64 E) ∧ St2 w B b (n + 1) g w.heap.size cs A3 A3 w') := Lib.hid fun w1 h1 => by rw [hE]; exact (runmap_any B g A ad had w1 h1.rf h1.big).mono (by rintro r w' ⟨rfl, h2, ht⟩; exact ⟨rfl, h1.ref (by rw [hA3]; exact h2) ht⟩)
  clear hE hA3
  have HC : Hid (∀ w1, Blk w1 w.heap.size 34 cs → w1.cell? ⟨w.heap.size, 0, none⟩ = some (.int .i64 op) ∧ w1.cell? ⟨w.heap.size, 1, none⟩ = some (.int .u32 (ad : Int)) ∧ w1.cell? ⟨w.heap.size, 2, none⟩ = some (.int .i64 m) ∧ w1.cell? ⟨w.heap.size, 3, none⟩ = some (.string tx)) := Lib.hid fun w1 h1 => by
    rw [h1.cell, h1.cell, h1.cell, h1.cell, hcs]; exact ⟨rfl, rfl, rfl, rfl⟩
  have HF : Hid (∀ w' A3, St2 w B b (n + 1) g w.heap.size cs A3 A3 w' → (∃ e2 A2, SpaceAt w' b e2 (n + 1) A2 ∧ RefAt w' B g A2) ∧ Below B w w') := Lib.hid fun w' A3 h => by
    obtain ⟨e2, h1⟩ := h.sp
    exact ⟨⟨e2, A3, h1, h.rf⟩, h.low⟩
  clear hn had h hr hB hcs htx
  subst hop
  go_enter Try.func10, Try.ntmps10

  go_wp2_with fail
  obtain ⟨k, hk⟩ : ∃ k, k = w.heap.size := ⟨_, rfl⟩
  rw [← hk] at HS HM HR HC HF
  simp only [← hk]
  obtain ⟨wb, hwb⟩ : ∃ wb, wb = w.alloc (.cells #[.int .i64 1, .int .u32 (ad : Int), .int .i64 m, .string tx] 34) := ⟨_, rfl⟩
  rw [← hwb] at HS ⊢
  clear hwb hk
  replace HS := Lib.hid HS.out.drew
  have hS0 := HC.out _ HS.out.box
  go_region_held3 (fun w' => w'.cell? ⟨k, 0, none⟩ = some (.int .i64 1) ∧ w'.cell? ⟨k, 1, none⟩ = some (.int .u32 (ad : Int)) ∧ w'.cell? ⟨k, 2, none⟩ = some (.int .i64 m) ∧ w'.cell? ⟨k, 3, none⟩ = some (.string tx))
    (first | exact hS0 | exact hS1 | exact hS2)
    ((first
      | (go_at_call 25; refine (HM.out _ HS.out).mono ?_; rintro r w1 ⟨rfl, h1⟩; have HS1 := Lib.hid h1; have hS1 := HC.out _ h1.box; clear h1)
      | (go_at_call 27; refine (HR.out _ HS1.out).mono ?_; rintro r w2 ⟨rfl, h2⟩; have HS2 := Lib.hid h2; have hS2 := HC.out _ h2.box; clear h2)))
  go_wp2
  go_ret
  exact ⟨rfl, HF.out _ _ HS2.out⟩


set_option maxHeartbeats 4000000 in
set_option maxRecDepth 100000 in
theorem does2_set (B b e n g : Nat) (A : As) (ad : Nat) (op m : Int) (tx : ByteArray) (hn : n < 1099511627776) (had : ad < 4294967296) (htx : tx.size ≤ 65536) (hop : op = 2) (w : World) (h : SpaceAt w b e n A) (hr : RefAt w B g A) (hB : B ≤ b) :
    Calls Try.prog 10 #[.pointer (some ⟨b + 1, 0, none⟩), .pointer (some ⟨g, 0, none⟩), .agg #[.int .i64 op, .int .u32 (ad : Int), .int .i64 m, .string tx]] w fun r w' => r = .returned (.bool true) ∧ (∃ e2 A2, SpaceAt w' b e2 (n + 1) A2 ∧ RefAt w' B g A2) ∧ Below B w w' := by
  obtain ⟨cs, hcs⟩ : ∃ cs, cs = [Value.int .i64 op, .int .u32 (ad : Int), .int .i64 m, .string tx] := ⟨_, rfl⟩
  have HS : Hid (St2 w B b n g w.heap.size cs A A (w.alloc (.cells #[.int .i64 op, .int .u32 (ad : Int), .int .i64 m, .string tx] 34))) := Lib.hid (by rw [hcs]; exact St2.start h hr hB)
  obtain ⟨E, hE⟩ : ∃ E, E = putE A 0 ad tx := ⟨_, rfl⟩
  obtain ⟨A3, hA3⟩ : ∃ A3, A3 = putR A 0 ad tx := ⟨_, rfl⟩
  have HM : Hid (∀ w1, St2 w B b n g w.heap.size cs A A w1 → Calls Try.prog 16 #[.pointer (some ⟨b + 1, 0, none⟩), .int .u32 (ad : Int), .string tx] w1 fun r w' => r = .returned (.int .i64 E) ∧ St2 w B b (n + 1) g w.heap.size cs A3 A w') := Lib.hid fun w1 h1 => by rw [hE, hA3]; obtain ⟨e1, hs⟩ := h1.sp; exact (set_any b e1 n A ad tx had (by omega) w1 hs).mono (by rintro r w' ⟨rfl, h3, ht⟩; exact ⟨rfl, h1.turn hs ht ⟨e1, h3.mono (Nat.le_succ _)⟩⟩)
  have HR : Hid (∀ w1, St2 w B b (n + 1) g w.heap.size cs A3 A w1 → Calls Try.prog 28 #[.pointer (some ⟨g, 0, none⟩), .int .u32 (ad : Int), .string tx, .int .u8 0] w1 fun r w' => r = .returned (.int .i64 E) ∧ St2 w B b (n + 1) g w.heap.size cs A3 A3 w') := Lib.hid fun w1 h1 => by rw [hE]; exact (rput_any B g A ad 0 tx had htx (by decide) w1 h1.rf).mono (by rintro r w' ⟨rfl, h2, ht⟩; exact ⟨rfl, h1.ref (by rw [hA3]; exact h2) ht⟩)
  clear hE hA3
  have HC : Hid (∀ w1, Blk w1 w.heap.size 34 cs → w1.cell? ⟨w.heap.size, 0, none⟩ = some (.int .i64 op) ∧ w1.cell? ⟨w.heap.size, 1, none⟩ = some (.int .u32 (ad : Int)) ∧ w1.cell? ⟨w.heap.size, 2, none⟩ = some (.int .i64 m) ∧ w1.cell? ⟨w.heap.size, 3, none⟩ = some (.string tx)) := Lib.hid fun w1 h1 => by
    rw [h1.cell, h1.cell, h1.cell, h1.cell, hcs]; exact ⟨rfl, rfl, rfl, rfl⟩
  have HF : Hid (∀ w' A3, St2 w B b (n + 1) g w.heap.size cs A3 A3 w' → (∃ e2 A2, SpaceAt w' b e2 (n + 1) A2 ∧ RefAt w' B g A2) ∧ Below B w w') := Lib.hid fun w' A3 h => by
    obtain ⟨e2, h1⟩ := h.sp
    exact ⟨⟨e2, A3, h1, h.rf⟩, h.low⟩
  clear hn had h hr hB hcs htx
  subst hop
  go_enter Try.func10, Try.ntmps10

  go_wp2_with fail
  obtain ⟨k, hk⟩ : ∃ k, k = w.heap.size := ⟨_, rfl⟩
  rw [← hk] at HS HM HR HC HF
  simp only [← hk]
  obtain ⟨wb, hwb⟩ : ∃ wb, wb = w.alloc (.cells #[.int .i64 2, .int .u32 (ad : Int), .int .i64 m, .string tx] 34) := ⟨_, rfl⟩
  rw [← hwb] at HS ⊢
  clear hwb hk
  replace HS := Lib.hid HS.out.drew
  have hS0 := HC.out _ HS.out.box
  go_region_held3 (fun w' => w'.cell? ⟨k, 0, none⟩ = some (.int .i64 2) ∧ w'.cell? ⟨k, 1, none⟩ = some (.int .u32 (ad : Int)) ∧ w'.cell? ⟨k, 2, none⟩ = some (.int .i64 m) ∧ w'.cell? ⟨k, 3, none⟩ = some (.string tx))
    (first | exact hS0 | exact hS1 | exact hS2)
    ((first
      | (go_at_call 16; refine (HM.out _ HS.out).mono ?_; rintro r w1 ⟨rfl, h1⟩; have HS1 := Lib.hid h1; have hS1 := HC.out _ h1.box; clear h1)
      | (go_at_call 28; refine (HR.out _ HS1.out).mono ?_; rintro r w2 ⟨rfl, h2⟩; have HS2 := Lib.hid h2; have hS2 := HC.out _ h2.box; clear h2)))
  go_wp2
  go_ret
  exact ⟨rfl, HF.out _ _ HS2.out⟩


set_option maxHeartbeats 4000000 in
set_option maxRecDepth 100000 in
theorem does2_write (B b e n g : Nat) (A : As) (ad : Nat) (op m : Int) (tx : ByteArray) (hn : n < 1099511627776) (had : ad < 4294967296) (htx : tx.size ≤ 65536) (hop : op = 5) (w : World) (h : SpaceAt w b e n A) (hr : RefAt w B g A) (hB : B ≤ b) :
    Calls Try.prog 10 #[.pointer (some ⟨b + 1, 0, none⟩), .pointer (some ⟨g, 0, none⟩), .agg #[.int .i64 op, .int .u32 (ad : Int), .int .i64 m, .string tx]] w fun r w' => r = .returned (.bool true) ∧ (∃ e2 A2, SpaceAt w' b e2 (n + 1) A2 ∧ RefAt w' B g A2) ∧ Below B w w' := by
  obtain ⟨cs, hcs⟩ : ∃ cs, cs = [Value.int .i64 op, .int .u32 (ad : Int), .int .i64 m, .string tx] := ⟨_, rfl⟩
  have HS : Hid (St2 w B b n g w.heap.size cs A A (w.alloc (.cells #[.int .i64 op, .int .u32 (ad : Int), .int .i64 m, .string tx] 34))) := Lib.hid (by rw [hcs]; exact St2.start h hr hB)
  obtain ⟨E, hE⟩ : ∃ E, E = putE A 2 ad tx := ⟨_, rfl⟩
  obtain ⟨A3, hA3⟩ : ∃ A3, A3 = putR A 2 ad tx := ⟨_, rfl⟩
  have HM : Hid (∀ w1, St2 w B b n g w.heap.size cs A A w1 → Calls Try.prog 17 #[.pointer (some ⟨b + 1, 0, none⟩), .int .u32 (ad : Int), .string tx] w1 fun r w' => r = .returned (.int .i64 E) ∧ St2 w B b (n + 1) g w.heap.size cs A3 A w') := Lib.hid fun w1 h1 => by rw [hE, hA3]; obtain ⟨e1, hs⟩ := h1.sp; exact (write_any' b e1 n A ad tx had (by omega) w1 hs).mono (by rintro r w' ⟨rfl, h3, ht⟩; exact ⟨rfl, h1.turn hs ht ⟨e1, h3.mono (Nat.le_succ _)⟩⟩)
  have HR : Hid (∀ w1, St2 w B b (n + 1) g w.heap.size cs A3 A w1 → Calls Try.prog 28 #[.pointer (some ⟨g, 0, none⟩), .int .u32 (ad : Int), .string tx, .int .u8 2] w1 fun r w' => r = .returned (.int .i64 E) ∧ St2 w B b (n + 1) g w.heap.size cs A3 A3 w') := Lib.hid fun w1 h1 => by rw [hE]; exact (rput_any B g A ad 2 tx had htx (by decide) w1 h1.rf).mono (by rintro r w' ⟨rfl, h2, ht⟩; exact ⟨rfl, h1.ref (by rw [hA3]; exact h2) ht⟩)
  clear hE hA3
  have HC : Hid (∀ w1, Blk w1 w.heap.size 34 cs → w1.cell? ⟨w.heap.size, 0, none⟩ = some (.int .i64 op) ∧ w1.cell? ⟨w.heap.size, 1, none⟩ = some (.int .u32 (ad : Int)) ∧ w1.cell? ⟨w.heap.size, 2, none⟩ = some (.int .i64 m) ∧ w1.cell? ⟨w.heap.size, 3, none⟩ = some (.string tx)) := Lib.hid fun w1 h1 => by
    rw [h1.cell, h1.cell, h1.cell, h1.cell, hcs]; exact ⟨rfl, rfl, rfl, rfl⟩
  have HF : Hid (∀ w' A3, St2 w B b (n + 1) g w.heap.size cs A3 A3 w' → (∃ e2 A2, SpaceAt w' b e2 (n + 1) A2 ∧ RefAt w' B g A2) ∧ Below B w w') := Lib.hid fun w' A3 h => by
    obtain ⟨e2, h1⟩ := h.sp
    exact ⟨⟨e2, A3, h1, h.rf⟩, h.low⟩
  clear hn had h hr hB hcs htx
  subst hop
  go_enter Try.func10, Try.ntmps10

  go_wp2_with fail
  obtain ⟨k, hk⟩ : ∃ k, k = w.heap.size := ⟨_, rfl⟩
  rw [← hk] at HS HM HR HC HF
  simp only [← hk]
  obtain ⟨wb, hwb⟩ : ∃ wb, wb = w.alloc (.cells #[.int .i64 5, .int .u32 (ad : Int), .int .i64 m, .string tx] 34) := ⟨_, rfl⟩
  rw [← hwb] at HS ⊢
  clear hwb hk
  replace HS := Lib.hid HS.out.drew
  have hS0 := HC.out _ HS.out.box
  go_region_held3 (fun w' => w'.cell? ⟨k, 0, none⟩ = some (.int .i64 5) ∧ w'.cell? ⟨k, 1, none⟩ = some (.int .u32 (ad : Int)) ∧ w'.cell? ⟨k, 2, none⟩ = some (.int .i64 m) ∧ w'.cell? ⟨k, 3, none⟩ = some (.string tx))
    (first | exact hS0 | exact hS1 | exact hS2)
    ((first
      | (go_at_call 17; refine (HM.out _ HS.out).mono ?_; rintro r w1 ⟨rfl, h1⟩; have HS1 := Lib.hid h1; have hS1 := HC.out _ h1.box; clear h1)
      | (go_at_call 28; refine (HR.out _ HS1.out).mono ?_; rintro r w2 ⟨rfl, h2⟩; have HS2 := Lib.hid h2; have hS2 := HC.out _ h2.box; clear h2)))
  go_wp2
  go_ret
  exact ⟨rfl, HF.out _ _ HS2.out⟩


set_option maxHeartbeats 4000000 in
set_option maxRecDepth 100000 in
theorem does2_look (B b e n g : Nat) (A : As) (ad : Nat) (op m : Int) (tx : ByteArray) (hn : n < 1099511627776) (had : ad < 4294967296) (htx : tx.size ≤ 65536) (hop : op = 3) (w : World) (h : SpaceAt w b e n A) (hr : RefAt w B g A) (hB : B ≤ b) :
    Calls Try.prog 10 #[.pointer (some ⟨b + 1, 0, none⟩), .pointer (some ⟨g, 0, none⟩), .agg #[.int .i64 op, .int .u32 (ad : Int), .int .i64 m, .string tx]] w fun r w' => r = .returned (.bool true) ∧ (∃ e2 A2, SpaceAt w' b e2 (n + 1) A2 ∧ RefAt w' B g A2) ∧ Below B w w' := by
  obtain ⟨cs, hcs⟩ : ∃ cs, cs = [Value.int .i64 op, .int .u32 (ad : Int), .int .i64 m, .string tx] := ⟨_, rfl⟩
  have HS : Hid (St2 w B b n g w.heap.size cs A A (w.alloc (.cells #[.int .i64 op, .int .u32 (ad : Int), .int .i64 m, .string tx] 34))) := Lib.hid (by rw [hcs]; exact St2.start h hr hB)
  obtain ⟨E, hE⟩ : ∃ E, E = getE A 0 ad m := ⟨_, rfl⟩
  obtain ⟨T, hT⟩ : ∃ T, T = getS A 0 ad m := ⟨_, rfl⟩
  have HM : Hid (∀ w1, St2 w B b n g w.heap.size cs A A w1 → Calls Try.prog 20 #[.pointer (some ⟨b + 1, 0, none⟩), .int .u32 (ad : Int), .int .i64 m] w1 fun r w' => r = .returned (.tuple #[.string T, .int .i64 E]) ∧ St2 w B b n g w.heap.size cs A A w') := Lib.hid fun w1 h1 => by rw [hE, hT]; obtain ⟨e1, hs⟩ := h1.sp; exact (look_any b e1 n A ad m had w1 hs).mono (by rintro r w' ⟨rfl, hb⟩; exact ⟨rfl, h1.below hb⟩)
  have HR : Hid (∀ w1, St2 w B b n g w.heap.size cs A A w1 → Calls Try.prog 29 #[.pointer (some ⟨g, 0, none⟩), .int .u32 (ad : Int), .int .i64 m, .int .u8 0] w1 fun r w' => r = .returned (.tuple #[.string T, .int .i64 E]) ∧ St2 w B b (n + 1) g w.heap.size cs A A w') := Lib.hid fun w1 h1 => by rw [hE, hT]; exact (rget_any B g A ad m 0 had (by decide) w1 h1.rf).mono (by rintro r w' ⟨rfl, hb⟩; obtain ⟨e2, h2⟩ := (h1.below hb).sp; exact ⟨rfl, ⟨e2, h2.mono (Nat.le_succ _)⟩, (h1.below hb).rf, (h1.below hb).box, (h1.below hb).low, (h1.below hb).big, h1.bb⟩)
  clear hE hT
  have HC : Hid (∀ w1, Blk w1 w.heap.size 34 cs → w1.cell? ⟨w.heap.size, 0, none⟩ = some (.int .i64 op) ∧ w1.cell? ⟨w.heap.size, 1, none⟩ = some (.int .u32 (ad : Int)) ∧ w1.cell? ⟨w.heap.size, 2, none⟩ = some (.int .i64 m) ∧ w1.cell? ⟨w.heap.size, 3, none⟩ = some (.string tx)) := Lib.hid fun w1 h1 => by
    rw [h1.cell, h1.cell, h1.cell, h1.cell, hcs]; exact ⟨rfl, rfl, rfl, rfl⟩
  have HF : Hid (∀ w' A3, St2 w B b (n + 1) g w.heap.size cs A3 A3 w' → (∃ e2 A2, SpaceAt w' b e2 (n + 1) A2 ∧ RefAt w' B g A2) ∧ Below B w w') := Lib.hid fun w' A3 h => by
    obtain ⟨e2, h1⟩ := h.sp
    exact ⟨⟨e2, A3, h1, h.rf⟩, h.low⟩
  clear hn had h hr hB hcs htx
  subst hop
  go_enter Try.func10, Try.ntmps10

  have hSb := HC.out _ HS.out.box
  go_wp2_with (first
    | (go_at_call 20; refine (HM.out _ HS.out).mono ?_; rintro r w1 ⟨rfl, h1⟩; have HS1 := Lib.hid h1; have hS1 := HC.out _ h1.box; clear h1)
    | (go_at_call 29; refine (HR.out _ HS1.out).mono ?_; rintro r w2 ⟨rfl, h2⟩; have HS2 := Lib.hid h2; have hS2 := HC.out _ h2.box; clear h2)
    | (go_at_call 30; refine (texts_same _ _ _).mono ?_; rintro r w3 ⟨rfl, rfl⟩))
  go_ret
  exact ⟨rfl, HF.out _ _ HS2.out⟩


set_option maxHeartbeats 4000000 in
set_option maxRecDepth 100000 in
theorem does2_read (B b e n g : Nat) (A : As) (ad : Nat) (op m : Int) (tx : ByteArray) (hn : n < 1099511627776) (had : ad < 4294967296) (htx : tx.size ≤ 65536) (hop : op = 4) (w : World) (h : SpaceAt w b e n A) (hr : RefAt w B g A) (hB : B ≤ b) :
    Calls Try.prog 10 #[.pointer (some ⟨b + 1, 0, none⟩), .pointer (some ⟨g, 0, none⟩), .agg #[.int .i64 op, .int .u32 (ad : Int), .int .i64 m, .string tx]] w fun r w' => r = .returned (.bool true) ∧ (∃ e2 A2, SpaceAt w' b e2 (n + 1) A2 ∧ RefAt w' B g A2) ∧ Below B w w' := by
  obtain ⟨cs, hcs⟩ : ∃ cs, cs = [Value.int .i64 op, .int .u32 (ad : Int), .int .i64 m, .string tx] := ⟨_, rfl⟩
  have HS : Hid (St2 w B b n g w.heap.size cs A A (w.alloc (.cells #[.int .i64 op, .int .u32 (ad : Int), .int .i64 m, .string tx] 34))) := Lib.hid (by rw [hcs]; exact St2.start h hr hB)
  obtain ⟨E, hE⟩ : ∃ E, E = getE A 1 ad m := ⟨_, rfl⟩
  obtain ⟨T, hT⟩ : ∃ T, T = getS A 1 ad m := ⟨_, rfl⟩
  have HM : Hid (∀ w1, St2 w B b n g w.heap.size cs A A w1 → Calls Try.prog 22 #[.pointer (some ⟨b + 1, 0, none⟩), .int .u32 (ad : Int), .int .i64 m] w1 fun r w' => r = .returned (.tuple #[.string T, .int .i64 E]) ∧ St2 w B b n g w.heap.size cs A A w') := Lib.hid fun w1 h1 => by rw [hE, hT]; obtain ⟨e1, hs⟩ := h1.sp; exact (read_any b e1 n A ad m had w1 hs).mono (by rintro r w' ⟨rfl, hb⟩; exact ⟨rfl, h1.below hb⟩)
  have HR : Hid (∀ w1, St2 w B b n g w.heap.size cs A A w1 → Calls Try.prog 29 #[.pointer (some ⟨g, 0, none⟩), .int .u32 (ad : Int), .int .i64 m, .int .u8 1] w1 fun r w' => r = .returned (.tuple #[.string T, .int .i64 E]) ∧ St2 w B b (n + 1) g w.heap.size cs A A w') := Lib.hid fun w1 h1 => by rw [hE, hT]; exact (rget_any B g A ad m 1 had (by decide) w1 h1.rf).mono (by rintro r w' ⟨rfl, hb⟩; obtain ⟨e2, h2⟩ := (h1.below hb).sp; exact ⟨rfl, ⟨e2, h2.mono (Nat.le_succ _)⟩, (h1.below hb).rf, (h1.below hb).box, (h1.below hb).low, (h1.below hb).big, h1.bb⟩)
  clear hE hT
  have HC : Hid (∀ w1, Blk w1 w.heap.size 34 cs → w1.cell? ⟨w.heap.size, 0, none⟩ = some (.int .i64 op) ∧ w1.cell? ⟨w.heap.size, 1, none⟩ = some (.int .u32 (ad : Int)) ∧ w1.cell? ⟨w.heap.size, 2, none⟩ = some (.int .i64 m) ∧ w1.cell? ⟨w.heap.size, 3, none⟩ = some (.string tx)) := Lib.hid fun w1 h1 => by
    rw [h1.cell, h1.cell, h1.cell, h1.cell, hcs]; exact ⟨rfl, rfl, rfl, rfl⟩
  have HF : Hid (∀ w' A3, St2 w B b (n + 1) g w.heap.size cs A3 A3 w' → (∃ e2 A2, SpaceAt w' b e2 (n + 1) A2 ∧ RefAt w' B g A2) ∧ Below B w w') := Lib.hid fun w' A3 h => by
    obtain ⟨e2, h1⟩ := h.sp
    exact ⟨⟨e2, A3, h1, h.rf⟩, h.low⟩
  clear hn had h hr hB hcs htx
  subst hop
  go_enter Try.func10, Try.ntmps10

  have hSb := HC.out _ HS.out.box
  go_wp2_with (first
    | (go_at_call 22; refine (HM.out _ HS.out).mono ?_; rintro r w1 ⟨rfl, h1⟩; have HS1 := Lib.hid h1; have hS1 := HC.out _ h1.box; clear h1)
    | (go_at_call 29; refine (HR.out _ HS1.out).mono ?_; rintro r w2 ⟨rfl, h2⟩; have HS2 := Lib.hid h2; have hS2 := HC.out _ h2.box; clear h2)
    | (go_at_call 30; refine (texts_same _ _ _).mono ?_; rintro r w3 ⟨rfl, rfl⟩))
  go_ret
  exact ⟨rfl, HF.out _ _ HS2.out⟩


set_option maxHeartbeats 4000000 in
set_option maxRecDepth 100000 in
theorem does2_fetch (B b e n g : Nat) (A : As) (ad : Nat) (op m : Int) (tx : ByteArray) (hn : n < 1099511627776) (had : ad < 4294967296) (htx : tx.size ≤ 65536) (hop : op = 6) (w : World) (h : SpaceAt w b e n A) (hr : RefAt w B g A) (hB : B ≤ b) :
    Calls Try.prog 10 #[.pointer (some ⟨b + 1, 0, none⟩), .pointer (some ⟨g, 0, none⟩), .agg #[.int .i64 op, .int .u32 (ad : Int), .int .i64 m, .string tx]] w fun r w' => r = .returned (.bool true) ∧ (∃ e2 A2, SpaceAt w' b e2 (n + 1) A2 ∧ RefAt w' B g A2) ∧ Below B w w' := by
  obtain ⟨cs, hcs⟩ : ∃ cs, cs = [Value.int .i64 op, .int .u32 (ad : Int), .int .i64 m, .string tx] := ⟨_, rfl⟩
  have HS : Hid (St2 w B b n g w.heap.size cs A A (w.alloc (.cells #[.int .i64 op, .int .u32 (ad : Int), .int .i64 m, .string tx] 34))) := Lib.hid (by rw [hcs]; exact St2.start h hr hB)
  obtain ⟨E, hE⟩ : ∃ E, E = getE A 4 ad 8 := ⟨_, rfl⟩
  obtain ⟨T, hT⟩ : ∃ T, T = getS A 4 ad 8 := ⟨_, rfl⟩
  have HM : Hid (∀ w1, St2 w B b n g w.heap.size cs A A w1 → Calls Try.prog 23 #[.pointer (some ⟨b + 1, 0, none⟩), .int .u32 (ad : Int)] w1 fun r w' => r = .returned (.tuple #[.string T, .int .i64 E]) ∧ St2 w B b n g w.heap.size cs A A w') := Lib.hid fun w1 h1 => by rw [hE, hT]; obtain ⟨e1, hs⟩ := h1.sp; exact (fetch_any b e1 n A ad had w1 hs).mono (by rintro r w' ⟨rfl, hb⟩; exact ⟨rfl, h1.below hb⟩)
  have HR : Hid (∀ w1, St2 w B b n g w.heap.size cs A A w1 → Calls Try.prog 29 #[.pointer (some ⟨g, 0, none⟩), .int .u32 (ad : Int), .int .i64 8, .int .u8 4] w1 fun r w' => r = .returned (.tuple #[.string T, .int .i64 E]) ∧ St2 w B b (n + 1) g w.heap.size cs A A w') := Lib.hid fun w1 h1 => by rw [hE, hT]; exact (rget_any B g A ad 8 4 had (by decide) w1 h1.rf).mono (by rintro r w' ⟨rfl, hb⟩; obtain ⟨e2, h2⟩ := (h1.below hb).sp; exact ⟨rfl, ⟨e2, h2.mono (Nat.le_succ _)⟩, (h1.below hb).rf, (h1.below hb).box, (h1.below hb).low, (h1.below hb).big, h1.bb⟩)
  clear hE hT
  have HC : Hid (∀ w1, Blk w1 w.heap.size 34 cs → w1.cell? ⟨w.heap.size, 0, none⟩ = some (.int .i64 op) ∧ w1.cell? ⟨w.heap.size, 1, none⟩ = some (.int .u32 (ad : Int)) ∧ w1.cell? ⟨w.heap.size, 2, none⟩ = some (.int .i64 m) ∧ w1.cell? ⟨w.heap.size, 3, none⟩ = some (.string tx)) := Lib.hid fun w1 h1 => by
    rw [h1.cell, h1.cell, h1.cell, h1.cell, hcs]; exact ⟨rfl, rfl, rfl, rfl⟩
  have HF : Hid (∀ w' A3, St2 w B b (n + 1) g w.heap.size cs A3 A3 w' → (∃ e2 A2, SpaceAt w' b e2 (n + 1) A2 ∧ RefAt w' B g A2) ∧ Below B w w') := Lib.hid fun w' A3 h => by
    obtain ⟨e2, h1⟩ := h.sp
    exact ⟨⟨e2, A3, h1, h.rf⟩, h.low⟩
  clear hn had h hr hB hcs htx
  subst hop
  go_enter Try.func10, Try.ntmps10

  have hSb := HC.out _ HS.out.box
  go_wp2_with (first
    | (go_at_call 23; refine (HM.out _ HS.out).mono ?_; rintro r w1 ⟨rfl, h1⟩; have HS1 := Lib.hid h1; have hS1 := HC.out _ h1.box; clear h1)
    | (go_at_call 29; refine (HR.out _ HS1.out).mono ?_; rintro r w2 ⟨rfl, h2⟩; have HS2 := Lib.hid h2; have hS2 := HC.out _ h2.box; clear h2)
    | (go_at_call 30; refine (texts_same _ _ _).mono ?_; rintro r w3 ⟨rfl, rfl⟩))
  go_ret
  exact ⟨rfl, HF.out _ _ HS2.out⟩


set_option maxHeartbeats 4000000 in
set_option maxRecDepth 100000 in
theorem does2_none (B b e n g : Nat) (A : As) (ad : Nat) (op m : Int) (tx : ByteArray) (hn : n < 1099511627776) (had : ad < 4294967296) (htx : tx.size ≤ 65536) (o0 : (op == 0) = false) (o1 : (op == 1) = false) (o2 : (op == 2) = false) (o3 : (op == 3) = false) (o4 : (op == 4) = false) (o5 : (op == 5) = false) (o6 : (op == 6) = false) (w : World) (h : SpaceAt w b e n A) (hr : RefAt w B g A) (hB : B ≤ b) :
    Calls Try.prog 10 #[.pointer (some ⟨b + 1, 0, none⟩), .pointer (some ⟨g, 0, none⟩), .agg #[.int .i64 op, .int .u32 (ad : Int), .int .i64 m, .string tx]] w fun r w' => r = .returned (.bool true) ∧ (∃ e2 A2, SpaceAt w' b e2 (n + 1) A2 ∧ RefAt w' B g A2) ∧ Below B w w' := by
  obtain ⟨cs, hcs⟩ : ∃ cs, cs = [Value.int .i64 op, .int .u32 (ad : Int), .int .i64 m, .string tx] := ⟨_, rfl⟩
  have HS : Hid (St2 w B b n g w.heap.size cs A A (w.alloc (.cells #[.int .i64 op, .int .u32 (ad : Int), .int .i64 m, .string tx] 34))) := Lib.hid (by rw [hcs]; exact St2.start h hr hB)

  have HC : Hid (∀ w1, Blk w1 w.heap.size 34 cs → w1.cell? ⟨w.heap.size, 0, none⟩ = some (.int .i64 op) ∧ w1.cell? ⟨w.heap.size, 1, none⟩ = some (.int .u32 (ad : Int)) ∧ w1.cell? ⟨w.heap.size, 2, none⟩ = some (.int .i64 m) ∧ w1.cell? ⟨w.heap.size, 3, none⟩ = some (.string tx)) := Lib.hid fun w1 h1 => by
    rw [h1.cell, h1.cell, h1.cell, h1.cell, hcs]; exact ⟨rfl, rfl, rfl, rfl⟩
  have HF : Hid (∀ w' A3, St2 w B b (n + 1) g w.heap.size cs A3 A3 w' → (∃ e2 A2, SpaceAt w' b e2 (n + 1) A2 ∧ RefAt w' B g A2) ∧ Below B w w') := Lib.hid fun w' A3 h => by
    obtain ⟨e2, h1⟩ := h.sp
    exact ⟨⟨e2, A3, h1, h.rf⟩, h.low⟩
  clear hn had h hr hB hcs htx
  go_enter Try.func10, Try.ntmps10

  have hSb := HC.out _ HS.out.box
  go_wp2
  go_ret
  have hm : St2 w B b (n + 1) g w.heap.size cs A A (w.alloc (.cells #[.int .i64 op, .int .u32 (ad : Int), .int .i64 m, .string tx] 34)) := by
    obtain ⟨e2, h2⟩ := HS.out.sp
    exact ⟨⟨e2, h2.mono (Nat.le_succ _)⟩, HS.out.rf, HS.out.box, HS.out.low, HS.out.big, HS.out.bb⟩
  exact ⟨rfl, HF.out _ _ hm⟩


theorem does_both (B b e n g : Nat) (A : As) (x : Stp) (hF : x.fits) (hn : n < 1099511627776) (htx : x.tx.size ≤ 65536) (w : World) (h : SpaceAt w b e n A) (hr : RefAt w B g A) (hB : B ≤ b) :
    Calls Try.prog 10 #[.pointer (some ⟨b + 1, 0, none⟩), .pointer (some ⟨g, 0, none⟩), .agg x.cells.toArray] w fun r w' => r = .returned (.bool true) ∧ (∃ e2 A2, SpaceAt w' b e2 (n + 1) A2 ∧ RefAt w' B g A2) ∧ Below B w w' := by
  obtain ⟨op, a, m, tx⟩ := x
  obtain ⟨⟨ha0, ha1⟩, _, _⟩ := hF
  obtain ⟨ad, rfl⟩ : ∃ ad : Nat, a = (ad : Int) := ⟨a.toNat, by simp at ha0; omega⟩
  have had : ad < 4294967296 := by simp at ha1; omega
  show Calls Try.prog 10 #[.pointer (some ⟨b + 1, 0, none⟩), .pointer (some ⟨g, 0, none⟩), .agg #[.int .i64 op, .int .u32 (ad : Int), .int .i64 m, .string tx]] w _
  by_cases o0 : op = 0
  · exact does2_map B b e n g A ad op m tx hn had htx o0 w h hr hB
  by_cases o1 : op = 1
  · exact does2_unmap B b e n g A ad op m tx hn had htx o1 w h hr hB
  by_cases o2 : op = 2
  · exact does2_set B b e n g A ad op m tx hn had htx o2 w h hr hB
  by_cases o3 : op = 3
  · exact does2_look B b e n g A ad op m tx hn had htx o3 w h hr hB
  by_cases o4 : op = 4
  · exact does2_read B b e n g A ad op m tx hn had htx o4 w h hr hB
  by_cases o5 : op = 5
  · exact does2_write B b e n g A ad op m tx hn had htx o5 w h hr hB
  by_cases o6 : op = 6
  · exact does2_fetch B b e n g A ad op m tx hn had htx o6 w h hr hB
  exact does2_none B b e n g A ad op m tx hn had htx (by simpa using o0) (by simpa using o1) (by simpa using o2) (by simpa using o3) (by simpa using o4) (by simpa using o5) (by simpa using o6) w h hr hB
end Go.Proofs.Ytfickpjecehboaa
