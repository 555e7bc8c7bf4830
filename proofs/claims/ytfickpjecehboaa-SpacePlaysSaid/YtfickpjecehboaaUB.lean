/- A step of a script, of a space and of a bare document's space. -/
import Derived.Test.YtfickpjecehboaaUA
import Derived.Test.YtfickpjecehboaaSE
import Derived.Test.YtfickpjecehboaaSF
import Derived.Test.YtfickpjecehboaaSH
import Derived.Test.YtfickpjecehboaaTK
import Derived.Deep.RegionHeld3
set_option linter.unusedVariables false
namespace Go.Proofs.Ytfickpjecehboaa
open Go.RowKit Go.Maps

theorem SpaceAt.isMap {w : World} {b e n : Nat} {A : As} (h : SpaceAt w b e n A) : ∃ es c, w.heap[b]? = some (.map es c) := by
  obtain ⟨pg, h⟩ := h
  obtain ⟨D, ⟨es, clock, hb, F, hs, hD⟩, r⟩ := h.map
  exact ⟨_, _, hb⟩
/-- What is neither the map nor a page stays. -/
theorem Turn.keep {w w' : World} {b e n j : Nat} {A : As} {t : TypeId} {cs : List Value} (h : Turn w w' b e) (hs : SpaceAt w b e n A) (hb : Blk w j t cs) (ht : t ≠ 65) : Blk w' j t cs := by
  refine hb.same (h.block j hb.lt ?_)
  rintro (rfl | ⟨_, _, cs', fr, h3⟩)
  · obtain ⟨es, c, h2⟩ := hs.isMap
    unfold Blk at hb
    rw [h2] at hb
    cases hb
  · unfold Blk at hb
    rw [h3] at hb
    injection hb with hb
    injection hb with _ hb
    exact ht hb.symm
/-- A block of another kind turns. -/
theorem SpaceAt.aside {w w' : World} {b e n r : Nat} {A : As} {t : TypeId} {cs : List Value} (h : SpaceAt w b e n A) (hg : w.grownBy w' (some r)) (hr : Blk w r t cs) (h1 : t ≠ 65) (h2 : t ≠ 59) : SpaceAt w' b e n A := by
  have hm := h.isMap
  obtain ⟨pg, h⟩ := h
  have hne : ∀ g t' cs', Blk w g t' cs' → t' ≠ t → g ≠ r := fun g t' cs' hb hn he => by
    subst he
    unfold Blk at hb hr
    rw [hr] at hb
    injection hb with hb
    injection hb with _ hb
    exact hn hb.symm
  have hbr : b ≠ r := by
    rintro rfl
    obtain ⟨es, c, hm⟩ := hm
    unfold Blk at hr
    rw [hm] at hr
    cases hr
  exact ⟨pg, h.head.grown hg (by intro he; cases he; exact hne _ _ _ h.head (Ne.symm h2) rfl), h.lo, Nat.le_trans h.hi hg.size, h.map.same (hg.block b h.map.lt (by intro he; cases he; exact hbr rfl)), h.none,
    fun i p hp => by
      obtain ⟨q1, q2, q3, f, q4, q5⟩ := h.page i p hp
      exact ⟨q1, q2, q3, f, q4, q5.grown hg (by intro he; cases he; exact hne _ _ _ q5 (Ne.symm h1) rfl)⟩, h.inj⟩

theorem SpaceAt.mono {w : World} {b e n n' : Nat} {A : As} (h : SpaceAt w b e n A) (hn : n ≤ n') : SpaceAt w b e n' A := by
  obtain ⟨pg, h⟩ := h
  exact ⟨pg, h.head, h.lo, h.hi, h.map.mono hn, h.none, h.page, h.inj⟩
/-- The world in which a step's parts are done. -/
structure Stg (w0 : World) (b e n g k : Nat) (cs : List Value) (w : World) : Prop where
  sp : ∃ e2 A, e ≤ e2 ∧ SpaceAt w b e2 n A
  bare : Bare w g
  box : Blk w k 34 cs
  low : Below b w0 w
  big : b ≤ w.heap.size
  gb : b < g
theorem Stg.drew {w0 w : World} {b e n g k : Nat} {cs : List Value} (h : Stg w0 b e n g k cs w) : Stg w0 b e n g k cs w.drew := ⟨by obtain ⟨e2, A, h1, h2⟩ := h.sp; exact ⟨e2, A, h1, h2.same (Nat.le_refl _) (fun _ _ _ => rfl)⟩, h.bare, h.box, h.low.drew, h.big, h.gb⟩
theorem Stg.turn {w0 w w' : World} {b e n n' g k : Nat} {cs : List Value} (h : Stg w0 b e n g k cs w) {e1 : Nat} {A : As} (hs : SpaceAt w b e1 n A) (he : e ≤ e1) (ht : Turn w w' b e1) (h2 : ∃ e2 A, e1 ≤ e2 ∧ SpaceAt w' b e2 n' A) : Stg w0 b e n' g k cs w' := by
  obtain ⟨e2, A2, he2, h3⟩ := h2
  exact ⟨⟨e2, A2, Nat.le_trans he he2, h3⟩, ht.keep hs h.bare (by decide), ht.keep hs h.box (by decide), h.low.trans (ht.below (Nat.le_refl _) h.big), Nat.le_trans h.big ht.size, h.gb⟩
theorem Stg.ref {w0 w w' : World} {b e n g k : Nat} {cs : List Value} (h : Stg w0 b e n g k cs w) (hg : w.grownBy w' (some g)) (hk : k ≠ g) : (∃ e2 A, e ≤ e2 ∧ SpaceAt w' b e2 n A) ∧ Blk w' k 34 cs ∧ Below b w0 w' := by
  obtain ⟨e2, A, he, h3⟩ := h.sp
  exact ⟨⟨e2, A, he, h3.aside hg h.bare (by decide) (by decide)⟩, h.box.grown hg (by intro he; cases he; exact hk rfl), h.low.grown hg h.big (fun j hj => by cases hj; have := h.gb; omega)⟩

/-- The parts of a step, the program's. -/
theorem map_stg {w0 : World} {b e n g k : Nat} {cs : List Value} (hn : n < 1099511627776) (ad pm : Nat) (had : ad < 4294967296) (hpm : pm < 256) (w : World) (h : Stg w0 b e n g k cs w) :
    Calls Try.prog 21 #[.pointer (some ⟨b + 1, 0, none⟩), .int .u32 (ad : Int), .int .u8 (pm : Int)] w fun r w' => (∃ v, r = .returned (.int .i64 v)) ∧ Stg w0 b e (n + 1) g k cs w' := by
  obtain ⟨e1, A, he, hs⟩ := h.sp
  refine (map_any b e1 n hn A ad pm had hpm w hs).mono ?_
  rintro r w' ⟨rfl, ⟨e2, h2, h3⟩, ht⟩
  exact ⟨⟨_, rfl⟩, h.turn hs he ht ⟨e2, _, h2, h3⟩⟩
theorem unmap_stg {w0 : World} {b e n g k : Nat} {cs : List Value} (ad : Nat) (had : ad < 4294967296) (w : World) (h : Stg w0 b e n g k cs w) :
    Calls Try.prog 25 #[.pointer (some ⟨b + 1, 0, none⟩), .int .u32 (ad : Int)] w fun r w' => (∃ v, r = .returned (.int .i64 v)) ∧ Stg w0 b e n g k cs w' := by
  obtain ⟨e1, A, he, hs⟩ := h.sp
  refine (unmap_any b e1 n A ad had w hs).mono ?_
  rintro r w' ⟨rfl, h3, ht⟩
  exact ⟨⟨_, rfl⟩, h.turn hs he ht ⟨e1, _, Nat.le_refl _, h3⟩⟩
theorem set_stg {w0 : World} {b e n g k : Nat} {cs : List Value} (ad : Nat) (had : ad < 4294967296) (s : ByteArray) (hsz : s.size ≤ 1099511627776) (w : World) (h : Stg w0 b e n g k cs w) :
    Calls Try.prog 16 #[.pointer (some ⟨b + 1, 0, none⟩), .int .u32 (ad : Int), .string s] w fun r w' => (∃ v, r = .returned (.int .i64 v)) ∧ Stg w0 b e n g k cs w' := by
  obtain ⟨e1, A, he, hs⟩ := h.sp
  refine (set_any b e1 n A ad s had hsz w hs).mono ?_
  rintro r w' ⟨rfl, h3, ht⟩
  exact ⟨⟨_, rfl⟩, h.turn hs he ht ⟨e1, _, Nat.le_refl _, h3⟩⟩
theorem write_stg {w0 : World} {b e n g k : Nat} {cs : List Value} (ad : Nat) (had : ad < 4294967296) (s : ByteArray) (hsz : s.size ≤ 1099511627776) (w : World) (h : Stg w0 b e n g k cs w) :
    Calls Try.prog 17 #[.pointer (some ⟨b + 1, 0, none⟩), .int .u32 (ad : Int), .string s] w fun r w' => (∃ v, r = .returned (.int .i64 v)) ∧ Stg w0 b e n g k cs w' := by
  obtain ⟨e1, A, he, hs⟩ := h.sp
  refine (write_any' b e1 n A ad s had hsz w hs).mono ?_
  rintro r w' ⟨rfl, h3, ht⟩
  exact ⟨⟨_, rfl⟩, h.turn hs he ht ⟨e1, _, Nat.le_refl _, h3⟩⟩
/-- What only makes memory. -/
theorem Stg.below {w0 w w' : World} {b e n g k : Nat} {cs : List Value} (h : Stg w0 b e n g k cs w) (hb : Below w.heap.size w w') : Stg w0 b e n g k cs w' := by
  obtain ⟨e1, A, he, hs⟩ := h.sp
  exact h.turn hs he (Turn.ofBelow hb b e1) ⟨e1, A, Nat.le_refl _, hs.below hb hs.hi⟩
theorem look_stg {w0 : World} {b e n g k : Nat} {cs : List Value} (ad : Nat) (had : ad < 4294967296) (m : Int) (w : World) (h : Stg w0 b e n g k cs w) :
    Calls Try.prog 20 #[.pointer (some ⟨b + 1, 0, none⟩), .int .u32 (ad : Int), .int .i64 m] w fun r w' => (∃ s v, r = .returned (.tuple #[.string s, .int .i64 v])) ∧ Stg w0 b e n g k cs w' := by
  obtain ⟨e1, A, he, hs⟩ := h.sp
  exact (look_any b e1 n A ad m had w hs).mono (by rintro r w' ⟨rfl, hb⟩; exact ⟨⟨_, _, rfl⟩, h.below hb⟩)
theorem read_stg {w0 : World} {b e n g k : Nat} {cs : List Value} (ad : Nat) (had : ad < 4294967296) (m : Int) (w : World) (h : Stg w0 b e n g k cs w) :
    Calls Try.prog 22 #[.pointer (some ⟨b + 1, 0, none⟩), .int .u32 (ad : Int), .int .i64 m] w fun r w' => (∃ s v, r = .returned (.tuple #[.string s, .int .i64 v])) ∧ Stg w0 b e n g k cs w' := by
  obtain ⟨e1, A, he, hs⟩ := h.sp
  exact (read_any b e1 n A ad m had w hs).mono (by rintro r w' ⟨rfl, hb⟩; exact ⟨⟨_, _, rfl⟩, h.below hb⟩)
theorem fetch_stg {w0 : World} {b e n g k : Nat} {cs : List Value} (ad : Nat) (had : ad < 4294967296) (w : World) (h : Stg w0 b e n g k cs w) :
    Calls Try.prog 23 #[.pointer (some ⟨b + 1, 0, none⟩), .int .u32 (ad : Int)] w fun r w' => (∃ s v, r = .returned (.tuple #[.string s, .int .i64 v])) ∧ Stg w0 b e n g k cs w' := by
  obtain ⟨e1, A, he, hs⟩ := h.sp
  exact (fetch_any b e1 n A ad had w hs).mono (by rintro r w' ⟨rfl, hb⟩; exact ⟨⟨_, _, rfl⟩, h.below hb⟩)

set_option maxHeartbeats 1000000 in
theorem texts_any (a c : ByteArray) (x y : Int) (w : World) : Calls Try.prog 30 #[.string a, .int .i64 x, .string c, .int .i64 y] w fun e w' => (∃ v, e = .returned (.bool v)) ∧ w' = w := by
  go_enter Try.func30, Try.ntmps30
  go_wp2
  all_goals (go_ret; exact ⟨⟨_, rfl⟩, rfl⟩)
theorem Stg.stay {w0 w : World} {b e n g k : Nat} {cs : List Value} (h : Stg w0 b e n g k cs w) : (∃ e2 A, e ≤ e2 ∧ SpaceAt w b e2 (n + 1) A) ∧ Blk w k 34 cs ∧ Below b w0 w := by
  obtain ⟨e2, A, he, h3⟩ := h.sp
  exact ⟨⟨e2, A, he, h3.mono (Nat.le_succ _)⟩, h.box, h.low⟩

set_option maxHeartbeats 4000000 in
set_option maxRecDepth 100000 in
theorem does_map (b e n g : Nat) (A : As) (ad : Nat) (op m : Int) (tx : ByteArray) (hn : n < 1099511627776) (had : ad < 4294967296) (htx : tx.size ≤ 1099511627776) (hop : op = 0) (w : World) (h : SpaceAt w b e n A) (hg : Bare w g) (hge : b < g) :
    Calls Try.prog 10 #[.pointer (some ⟨b + 1, 0, none⟩), .pointer (some ⟨g, 0, none⟩), .agg #[.int .i64 op, .int .u32 (ad : Int), .int .i64 m, .string tx]] w fun r w' => (∃ v, r = .returned (.bool v)) ∧ (∃ e2 A2, e ≤ e2 ∧ SpaceAt w' b e2 (n + 1) A2) ∧ Below b w w' := by
  obtain ⟨cs, hcs⟩ : ∃ cs, cs = [Value.int .i64 op, .int .u32 (ad : Int), .int .i64 m, .string tx] := ⟨_, rfl⟩
  have hlt := hg.lt
  have hbs : b ≤ w.heap.size := by have := h.lo; have := h.hi; omega
  have HS : Hid (Stg w b e n g w.heap.size cs (w.alloc (.cells #[.int .i64 op, .int .u32 (ad : Int), .int .i64 m, .string tx] 34))) := Lib.hid ⟨⟨e, A, Nat.le_refl _, h.same (by simp) (fun j _ hj => Below.heap_alloc _ _ _ (by have := h.hi; omega))⟩, hg.alloc _, by rw [hcs]; exact Blk.new w _ _, (Below.refl _ _).alloc hbs _, by simp; omega, hge⟩
  have HK : Hid (w.heap.size ≠ g) := Lib.hid (by omega)
  have HM : Hid (∀ pm : Nat, pm < 256 → ∀ w1, Stg w b e n g w.heap.size cs w1 → Calls Try.prog 21 #[.pointer (some ⟨b + 1, 0, none⟩), .int .u32 (ad : Int), .int .u8 (pm : Int)] w1 fun r w' => (∃ v, r = .returned (.int .i64 v)) ∧ Stg w b e (n + 1) g w.heap.size cs w') := Lib.hid fun pm hpm w1 h1 => map_stg hn ad pm had hpm w1 h1
  have HR : Hid (∀ p : Int, ∀ w1, Stg w b e (n + 1) g w.heap.size cs w1 → Calls Try.prog 26 #[.pointer (some ⟨g, 0, none⟩), .int .u32 (ad : Int), .int .u8 p] w1 fun r w' => (∃ v, r = .returned (.int .i64 v)) ∧ ((∃ e2 A2, e ≤ e2 ∧ SpaceAt w' b e2 (n + 1) A2) ∧ Blk w' w.heap.size 34 cs ∧ Below b w w')) := Lib.hid fun p w1 h1 => (rmap_bare g ad p w1 h1.bare).mono (by rintro r w' ⟨hr, hgr⟩; exact ⟨hr, h1.ref hgr HK.out⟩)
  have HC : Hid (∀ w1, Blk w1 w.heap.size 34 cs → w1.cell? ⟨w.heap.size, 0, none⟩ = some (.int .i64 op) ∧ w1.cell? ⟨w.heap.size, 1, none⟩ = some (.int .u32 (ad : Int)) ∧ w1.cell? ⟨w.heap.size, 2, none⟩ = some (.int .i64 m) ∧ w1.cell? ⟨w.heap.size, 3, none⟩ = some (.string tx)) := Lib.hid fun w1 h1 => by
    rw [h1.cell, h1.cell, h1.cell, h1.cell, hcs]; exact ⟨rfl, rfl, rfl, rfl⟩
  clear hn had h hg hge hlt hbs hcs htx
  subst hop
  go_enter Try.func10, Try.ntmps10
  go_wp2_with fail
  obtain ⟨k, hk⟩ : ∃ k, k = w.heap.size := ⟨_, rfl⟩
  rw [← hk] at HS HM HR HC HK
  simp only [← hk]
  obtain ⟨wb, hwb⟩ : ∃ wb, wb = w.alloc (.cells #[.int .i64 0, .int .u32 (ad : Int), .int .i64 m, .string tx] 34) := ⟨_, rfl⟩
  rw [← hwb] at HS ⊢
  clear hwb hk
  obtain ⟨V, hV⟩ : ∃ V, bits BinOp.and IntKind.i64 m 255 = V := ⟨_, rfl⟩
  obtain ⟨pm, hpm⟩ : ∃ pm : Nat, V % 256 = (pm : Int) := ⟨(V % 256).toNat, by omega⟩
  have hW : IntKind.u8.wrap V = (pm : Int) := by rw [IntKind.wrap_u8', hpm]
  have HPM : Hid (pm < 256) := Lib.hid (by omega)
  replace HS := Lib.hid HS.out.drew
  have hS0 := HC.out _ HS.out.box
  go_region_held3 (fun w' => w'.cell? ⟨k, 0, none⟩ = some (.int .i64 0) ∧ w'.cell? ⟨k, 1, none⟩ = some (.int .u32 (ad : Int)) ∧ w'.cell? ⟨k, 2, none⟩ = some (.int .i64 m) ∧ w'.cell? ⟨k, 3, none⟩ = some (.string tx))
    (first | exact hS0 | exact hS1 | exact hS2)
    ((first
      | (go_at_call 21; refine (HM.out pm HPM.out _ HS.out).mono ?_; rintro r w1 ⟨⟨v1, rfl⟩, h1⟩; have HS1 := Lib.hid h1; have hS1 := HC.out _ h1.box; clear h1)
      | (go_at_call 26; refine (HR.out _ _ HS1.out).mono ?_; rintro r w2 ⟨⟨v2, rfl⟩, h2⟩; have HS2 := Lib.hid h2; have hS2 := HC.out _ h2.2.1; clear h2)))
  go_wp2
  go_ret
  exact ⟨⟨_, rfl⟩, HS2.out.1, HS2.out.2.2⟩

set_option maxHeartbeats 4000000 in
set_option maxRecDepth 100000 in
theorem does_unmap (b e n g : Nat) (A : As) (ad : Nat) (op m : Int) (tx : ByteArray) (hn : n < 1099511627776) (had : ad < 4294967296) (htx : tx.size ≤ 1099511627776) (hop : op = 1) (w : World) (h : SpaceAt w b e n A) (hg : Bare w g) (hge : b < g) :
    Calls Try.prog 10 #[.pointer (some ⟨b + 1, 0, none⟩), .pointer (some ⟨g, 0, none⟩), .agg #[.int .i64 op, .int .u32 (ad : Int), .int .i64 m, .string tx]] w fun r w' => (∃ v, r = .returned (.bool v)) ∧ (∃ e2 A2, e ≤ e2 ∧ SpaceAt w' b e2 (n + 1) A2) ∧ Below b w w' := by
  obtain ⟨cs, hcs⟩ : ∃ cs, cs = [Value.int .i64 op, .int .u32 (ad : Int), .int .i64 m, .string tx] := ⟨_, rfl⟩
  have hlt := hg.lt
  have hbs : b ≤ w.heap.size := by have := h.lo; have := h.hi; omega
  have HS : Hid (Stg w b e n g w.heap.size cs (w.alloc (.cells #[.int .i64 op, .int .u32 (ad : Int), .int .i64 m, .string tx] 34))) := Lib.hid ⟨⟨e, A, Nat.le_refl _, h.same (by simp) (fun j _ hj => Below.heap_alloc _ _ _ (by have := h.hi; omega))⟩, hg.alloc _, by rw [hcs]; exact Blk.new w _ _, (Below.refl _ _).alloc hbs _, by simp; omega, hge⟩
  have HK : Hid (w.heap.size ≠ g) := Lib.hid (by omega)
  have HM : Hid (∀ w1, Stg w b e n g w.heap.size cs w1 → Calls Try.prog 25 #[.pointer (some ⟨b + 1, 0, none⟩), .int .u32 (ad : Int)] w1 fun r w' => (∃ v, r = .returned (.int .i64 v)) ∧ Stg w b e n g w.heap.size cs w') := Lib.hid fun w1 h1 => unmap_stg ad had w1 h1
  have HR : Hid (∀ w1, Stg w b e n g w.heap.size cs w1 → Calls Try.prog 27 #[.pointer (some ⟨g, 0, none⟩), .int .u32 (ad : Int)] w1 fun r w' => (∃ v, r = .returned (.int .i64 v)) ∧ ((∃ e2 A2, e ≤ e2 ∧ SpaceAt w' b e2 (n + 1) A2) ∧ Blk w' w.heap.size 34 cs ∧ Below b w w')) := Lib.hid fun w1 h1 => (runmap_bare g ad w1 h1.bare).mono (by rintro r w' ⟨hr, rfl⟩; exact ⟨hr, h1.stay⟩)
  have HC : Hid (∀ w1, Blk w1 w.heap.size 34 cs → w1.cell? ⟨w.heap.size, 0, none⟩ = some (.int .i64 op) ∧ w1.cell? ⟨w.heap.size, 1, none⟩ = some (.int .u32 (ad : Int)) ∧ w1.cell? ⟨w.heap.size, 2, none⟩ = some (.int .i64 m) ∧ w1.cell? ⟨w.heap.size, 3, none⟩ = some (.string tx)) := Lib.hid fun w1 h1 => by
    rw [h1.cell, h1.cell, h1.cell, h1.cell, hcs]; exact ⟨rfl, rfl, rfl, rfl⟩
  clear hn had h hg hge hlt hbs hcs htx
  subst hop
  go_enter Try.func10, Try.ntmps10
  go_wp2_with fail
  obtain ⟨k, hk⟩ : ∃ k, k = w.heap.size := ⟨_, rfl⟩
  rw [← hk] at HS HM HR HC HK
  simp only [← hk]
  obtain ⟨wb, hwb⟩ : ∃ wb, wb = w.alloc (.cells #[.int .i64 1, .int .u32 (ad : Int), .int .i64 m, .string tx] 34) := ⟨_, rfl⟩
  rw [← hwb] at HS ⊢
  clear hwb hk
  replace HS := Lib.hid HS.out.drew
  have hS0 := HC.out _ HS.out.box
  go_region_held3 (fun w' => w'.cell? ⟨k, 0, none⟩ = some (.int .i64 1) ∧ w'.cell? ⟨k, 1, none⟩ = some (.int .u32 (ad : Int)) ∧ w'.cell? ⟨k, 2, none⟩ = some (.int .i64 m) ∧ w'.cell? ⟨k, 3, none⟩ = some (.string tx))
    (first | exact hS0 | exact hS1 | exact hS2)
    ((first
      | (go_at_call 25; refine (HM.out _ HS.out).mono ?_; rintro r w1 ⟨⟨v1, rfl⟩, h1⟩; have HS1 := Lib.hid h1; have hS1 := HC.out _ h1.box; clear h1)
      | (go_at_call 27; refine (HR.out _ HS1.out).mono ?_; rintro r w2 ⟨⟨v2, rfl⟩, h2⟩; have HS2 := Lib.hid h2; have hS2 := HC.out _ h2.2.1; clear h2)))
  go_wp2
  go_ret
  exact ⟨⟨_, rfl⟩, HS2.out.1, HS2.out.2.2⟩

set_option maxHeartbeats 4000000 in
set_option maxRecDepth 100000 in
theorem does_set (b e n g : Nat) (A : As) (ad : Nat) (op m : Int) (tx : ByteArray) (hn : n < 1099511627776) (had : ad < 4294967296) (htx : tx.size ≤ 1099511627776) (hop : op = 2) (w : World) (h : SpaceAt w b e n A) (hg : Bare w g) (hge : b < g) :
    Calls Try.prog 10 #[.pointer (some ⟨b + 1, 0, none⟩), .pointer (some ⟨g, 0, none⟩), .agg #[.int .i64 op, .int .u32 (ad : Int), .int .i64 m, .string tx]] w fun r w' => (∃ v, r = .returned (.bool v)) ∧ (∃ e2 A2, e ≤ e2 ∧ SpaceAt w' b e2 (n + 1) A2) ∧ Below b w w' := by
  obtain ⟨cs, hcs⟩ : ∃ cs, cs = [Value.int .i64 op, .int .u32 (ad : Int), .int .i64 m, .string tx] := ⟨_, rfl⟩
  have hlt := hg.lt
  have hbs : b ≤ w.heap.size := by have := h.lo; have := h.hi; omega
  have HS : Hid (Stg w b e n g w.heap.size cs (w.alloc (.cells #[.int .i64 op, .int .u32 (ad : Int), .int .i64 m, .string tx] 34))) := Lib.hid ⟨⟨e, A, Nat.le_refl _, h.same (by simp) (fun j _ hj => Below.heap_alloc _ _ _ (by have := h.hi; omega))⟩, hg.alloc _, by rw [hcs]; exact Blk.new w _ _, (Below.refl _ _).alloc hbs _, by simp; omega, hge⟩
  have HK : Hid (w.heap.size ≠ g) := Lib.hid (by omega)
  have HM : Hid (∀ w1, Stg w b e n g w.heap.size cs w1 → Calls Try.prog 16 #[.pointer (some ⟨b + 1, 0, none⟩), .int .u32 (ad : Int), .string tx] w1 fun r w' => (∃ v, r = .returned (.int .i64 v)) ∧ Stg w b e n g w.heap.size cs w') := Lib.hid fun w1 h1 => set_stg ad had tx htx w1 h1
  have HR : Hid (∀ w1, Stg w b e n g w.heap.size cs w1 → Calls Try.prog 28 #[.pointer (some ⟨g, 0, none⟩), .int .u32 (ad : Int), .string tx, .int .u8 0] w1 fun r w' => (∃ v, r = .returned (.int .i64 v)) ∧ ((∃ e2 A2, e ≤ e2 ∧ SpaceAt w' b e2 (n + 1) A2) ∧ Blk w' w.heap.size 34 cs ∧ Below b w w')) := Lib.hid fun w1 h1 => (rput_bare g ad tx 0 w1 h1.bare).mono (by rintro r w' ⟨hr, rfl⟩; exact ⟨hr, h1.stay⟩)
  have HC : Hid (∀ w1, Blk w1 w.heap.size 34 cs → w1.cell? ⟨w.heap.size, 0, none⟩ = some (.int .i64 op) ∧ w1.cell? ⟨w.heap.size, 1, none⟩ = some (.int .u32 (ad : Int)) ∧ w1.cell? ⟨w.heap.size, 2, none⟩ = some (.int .i64 m) ∧ w1.cell? ⟨w.heap.size, 3, none⟩ = some (.string tx)) := Lib.hid fun w1 h1 => by
    rw [h1.cell, h1.cell, h1.cell, h1.cell, hcs]; exact ⟨rfl, rfl, rfl, rfl⟩
  clear hn had h hg hge hlt hbs hcs htx
  subst hop
  go_enter Try.func10, Try.ntmps10
  go_wp2_with fail
  obtain ⟨k, hk⟩ : ∃ k, k = w.heap.size := ⟨_, rfl⟩
  rw [← hk] at HS HM HR HC HK
  simp only [← hk]
  obtain ⟨wb, hwb⟩ : ∃ wb, wb = w.alloc (.cells #[.int .i64 2, .int .u32 (ad : Int), .int .i64 m, .string tx] 34) := ⟨_, rfl⟩
  rw [← hwb] at HS ⊢
  clear hwb hk
  replace HS := Lib.hid HS.out.drew
  have hS0 := HC.out _ HS.out.box
  go_region_held3 (fun w' => w'.cell? ⟨k, 0, none⟩ = some (.int .i64 2) ∧ w'.cell? ⟨k, 1, none⟩ = some (.int .u32 (ad : Int)) ∧ w'.cell? ⟨k, 2, none⟩ = some (.int .i64 m) ∧ w'.cell? ⟨k, 3, none⟩ = some (.string tx))
    (first | exact hS0 | exact hS1 | exact hS2)
    ((first
      | (go_at_call 16; refine (HM.out _ HS.out).mono ?_; rintro r w1 ⟨⟨v1, rfl⟩, h1⟩; have HS1 := Lib.hid h1; have hS1 := HC.out _ h1.box; clear h1)
      | (go_at_call 28; refine (HR.out _ HS1.out).mono ?_; rintro r w2 ⟨⟨v2, rfl⟩, h2⟩; have HS2 := Lib.hid h2; have hS2 := HC.out _ h2.2.1; clear h2)))
  go_wp2
  go_ret
  exact ⟨⟨_, rfl⟩, HS2.out.1, HS2.out.2.2⟩

set_option maxHeartbeats 4000000 in
set_option maxRecDepth 100000 in
theorem does_write (b e n g : Nat) (A : As) (ad : Nat) (op m : Int) (tx : ByteArray) (hn : n < 1099511627776) (had : ad < 4294967296) (htx : tx.size ≤ 1099511627776) (hop : op = 5) (w : World) (h : SpaceAt w b e n A) (hg : Bare w g) (hge : b < g) :
    Calls Try.prog 10 #[.pointer (some ⟨b + 1, 0, none⟩), .pointer (some ⟨g, 0, none⟩), .agg #[.int .i64 op, .int .u32 (ad : Int), .int .i64 m, .string tx]] w fun r w' => (∃ v, r = .returned (.bool v)) ∧ (∃ e2 A2, e ≤ e2 ∧ SpaceAt w' b e2 (n + 1) A2) ∧ Below b w w' := by
  obtain ⟨cs, hcs⟩ : ∃ cs, cs = [Value.int .i64 op, .int .u32 (ad : Int), .int .i64 m, .string tx] := ⟨_, rfl⟩
  have hlt := hg.lt
  have hbs : b ≤ w.heap.size := by have := h.lo; have := h.hi; omega
  have HS : Hid (Stg w b e n g w.heap.size cs (w.alloc (.cells #[.int .i64 op, .int .u32 (ad : Int), .int .i64 m, .string tx] 34))) := Lib.hid ⟨⟨e, A, Nat.le_refl _, h.same (by simp) (fun j _ hj => Below.heap_alloc _ _ _ (by have := h.hi; omega))⟩, hg.alloc _, by rw [hcs]; exact Blk.new w _ _, (Below.refl _ _).alloc hbs _, by simp; omega, hge⟩
  have HK : Hid (w.heap.size ≠ g) := Lib.hid (by omega)
  have HM : Hid (∀ w1, Stg w b e n g w.heap.size cs w1 → Calls Try.prog 17 #[.pointer (some ⟨b + 1, 0, none⟩), .int .u32 (ad : Int), .string tx] w1 fun r w' => (∃ v, r = .returned (.int .i64 v)) ∧ Stg w b e n g w.heap.size cs w') := Lib.hid fun w1 h1 => write_stg ad had tx htx w1 h1
  have HR : Hid (∀ w1, Stg w b e n g w.heap.size cs w1 → Calls Try.prog 28 #[.pointer (some ⟨g, 0, none⟩), .int .u32 (ad : Int), .string tx, .int .u8 2] w1 fun r w' => (∃ v, r = .returned (.int .i64 v)) ∧ ((∃ e2 A2, e ≤ e2 ∧ SpaceAt w' b e2 (n + 1) A2) ∧ Blk w' w.heap.size 34 cs ∧ Below b w w')) := Lib.hid fun w1 h1 => (rput_bare g ad tx 2 w1 h1.bare).mono (by rintro r w' ⟨hr, rfl⟩; exact ⟨hr, h1.stay⟩)
  have HC : Hid (∀ w1, Blk w1 w.heap.size 34 cs → w1.cell? ⟨w.heap.size, 0, none⟩ = some (.int .i64 op) ∧ w1.cell? ⟨w.heap.size, 1, none⟩ = some (.int .u32 (ad : Int)) ∧ w1.cell? ⟨w.heap.size, 2, none⟩ = some (.int .i64 m) ∧ w1.cell? ⟨w.heap.size, 3, none⟩ = some (.string tx)) := Lib.hid fun w1 h1 => by
    rw [h1.cell, h1.cell, h1.cell, h1.cell, hcs]; exact ⟨rfl, rfl, rfl, rfl⟩
  clear hn had h hg hge hlt hbs hcs htx
  subst hop
  go_enter Try.func10, Try.ntmps10
  go_wp2_with fail
  obtain ⟨k, hk⟩ : ∃ k, k = w.heap.size := ⟨_, rfl⟩
  rw [← hk] at HS HM HR HC HK
  simp only [← hk]
  obtain ⟨wb, hwb⟩ : ∃ wb, wb = w.alloc (.cells #[.int .i64 5, .int .u32 (ad : Int), .int .i64 m, .string tx] 34) := ⟨_, rfl⟩
  rw [← hwb] at HS ⊢
  clear hwb hk
  replace HS := Lib.hid HS.out.drew
  have hS0 := HC.out _ HS.out.box
  go_region_held3 (fun w' => w'.cell? ⟨k, 0, none⟩ = some (.int .i64 5) ∧ w'.cell? ⟨k, 1, none⟩ = some (.int .u32 (ad : Int)) ∧ w'.cell? ⟨k, 2, none⟩ = some (.int .i64 m) ∧ w'.cell? ⟨k, 3, none⟩ = some (.string tx))
    (first | exact hS0 | exact hS1 | exact hS2)
    ((first
      | (go_at_call 17; refine (HM.out _ HS.out).mono ?_; rintro r w1 ⟨⟨v1, rfl⟩, h1⟩; have HS1 := Lib.hid h1; have hS1 := HC.out _ h1.box; clear h1)
      | (go_at_call 28; refine (HR.out _ HS1.out).mono ?_; rintro r w2 ⟨⟨v2, rfl⟩, h2⟩; have HS2 := Lib.hid h2; have hS2 := HC.out _ h2.2.1; clear h2)))
  go_wp2
  go_ret
  exact ⟨⟨_, rfl⟩, HS2.out.1, HS2.out.2.2⟩

set_option maxHeartbeats 4000000 in
set_option maxRecDepth 100000 in
theorem does_look (b e n g : Nat) (A : As) (ad : Nat) (op m : Int) (tx : ByteArray) (hn : n < 1099511627776) (had : ad < 4294967296) (htx : tx.size ≤ 1099511627776) (hop : op = 3) (w : World) (h : SpaceAt w b e n A) (hg : Bare w g) (hge : b < g) :
    Calls Try.prog 10 #[.pointer (some ⟨b + 1, 0, none⟩), .pointer (some ⟨g, 0, none⟩), .agg #[.int .i64 op, .int .u32 (ad : Int), .int .i64 m, .string tx]] w fun r w' => (∃ v, r = .returned (.bool v)) ∧ (∃ e2 A2, e ≤ e2 ∧ SpaceAt w' b e2 (n + 1) A2) ∧ Below b w w' := by
  obtain ⟨cs, hcs⟩ : ∃ cs, cs = [Value.int .i64 op, .int .u32 (ad : Int), .int .i64 m, .string tx] := ⟨_, rfl⟩
  have hlt := hg.lt
  have hbs : b ≤ w.heap.size := by have := h.lo; have := h.hi; omega
  have HS : Hid (Stg w b e n g w.heap.size cs (w.alloc (.cells #[.int .i64 op, .int .u32 (ad : Int), .int .i64 m, .string tx] 34))) := Lib.hid ⟨⟨e, A, Nat.le_refl _, h.same (by simp) (fun j _ hj => Below.heap_alloc _ _ _ (by have := h.hi; omega))⟩, hg.alloc _, by rw [hcs]; exact Blk.new w _ _, (Below.refl _ _).alloc hbs _, by simp; omega, hge⟩
  have HK : Hid (w.heap.size ≠ g) := Lib.hid (by omega)
  have HM : Hid (∀ w1, Stg w b e n g w.heap.size cs w1 → Calls Try.prog 20 #[.pointer (some ⟨b + 1, 0, none⟩), .int .u32 (ad : Int), .int .i64 m] w1 fun r w' => (∃ s v, r = .returned (.tuple #[.string s, .int .i64 v])) ∧ Stg w b e n g w.heap.size cs w') := Lib.hid fun w1 h1 => look_stg ad had m w1 h1
  have HR : Hid (∀ w1, Stg w b e n g w.heap.size cs w1 → Calls Try.prog 29 #[.pointer (some ⟨g, 0, none⟩), .int .u32 (ad : Int), .int .i64 m, .int .u8 0] w1 fun r w' => (∃ s v, r = .returned (.tuple #[.string s, .int .i64 v])) ∧ ((∃ e2 A2, e ≤ e2 ∧ SpaceAt w' b e2 (n + 1) A2) ∧ Blk w' w.heap.size 34 cs ∧ Below b w w')) := Lib.hid fun w1 h1 => (rget_bare g ad m 0 w1 h1.bare).mono (by rintro r w' ⟨hr, rfl⟩; exact ⟨hr, h1.stay⟩)
  have HC : Hid (∀ w1, Blk w1 w.heap.size 34 cs → w1.cell? ⟨w.heap.size, 0, none⟩ = some (.int .i64 op) ∧ w1.cell? ⟨w.heap.size, 1, none⟩ = some (.int .u32 (ad : Int)) ∧ w1.cell? ⟨w.heap.size, 2, none⟩ = some (.int .i64 m) ∧ w1.cell? ⟨w.heap.size, 3, none⟩ = some (.string tx)) := Lib.hid fun w1 h1 => by
    rw [h1.cell, h1.cell, h1.cell, h1.cell, hcs]; exact ⟨rfl, rfl, rfl, rfl⟩
  clear hn had h hg hge hlt hbs hcs htx
  subst hop
  go_enter Try.func10, Try.ntmps10
  have hSb := HC.out _ HS.out.box
  go_wp2_with (first
    | (go_at_call 20; refine (HM.out _ HS.out).mono ?_; rintro r w1 ⟨⟨s1, v1, rfl⟩, h1⟩; have HS1 := Lib.hid h1; have hS1 := HC.out _ h1.box; clear h1)
    | (go_at_call 29; refine (HR.out _ HS1.out).mono ?_; rintro r w2 ⟨⟨s2, v2, rfl⟩, h2⟩; have HS2 := Lib.hid h2; have hS2 := HC.out _ h2.2.1; clear h2)
    | (go_at_call 30; refine (texts_any _ _ _ _ _).mono ?_; rintro r w3 ⟨⟨v3, rfl⟩, rfl⟩))
  go_ret
  exact ⟨⟨_, rfl⟩, HS2.out.1, HS2.out.2.2⟩

set_option maxHeartbeats 4000000 in
set_option maxRecDepth 100000 in
theorem does_read (b e n g : Nat) (A : As) (ad : Nat) (op m : Int) (tx : ByteArray) (hn : n < 1099511627776) (had : ad < 4294967296) (htx : tx.size ≤ 1099511627776) (hop : op = 4) (w : World) (h : SpaceAt w b e n A) (hg : Bare w g) (hge : b < g) :
    Calls Try.prog 10 #[.pointer (some ⟨b + 1, 0, none⟩), .pointer (some ⟨g, 0, none⟩), .agg #[.int .i64 op, .int .u32 (ad : Int), .int .i64 m, .string tx]] w fun r w' => (∃ v, r = .returned (.bool v)) ∧ (∃ e2 A2, e ≤ e2 ∧ SpaceAt w' b e2 (n + 1) A2) ∧ Below b w w' := by
  obtain ⟨cs, hcs⟩ : ∃ cs, cs = [Value.int .i64 op, .int .u32 (ad : Int), .int .i64 m, .string tx] := ⟨_, rfl⟩
  have hlt := hg.lt
  have hbs : b ≤ w.heap.size := by have := h.lo; have := h.hi; omega
  have HS : Hid (Stg w b e n g w.heap.size cs (w.alloc (.cells #[.int .i64 op, .int .u32 (ad : Int), .int .i64 m, .string tx] 34))) := Lib.hid ⟨⟨e, A, Nat.le_refl _, h.same (by simp) (fun j _ hj => Below.heap_alloc _ _ _ (by have := h.hi; omega))⟩, hg.alloc _, by rw [hcs]; exact Blk.new w _ _, (Below.refl _ _).alloc hbs _, by simp; omega, hge⟩
  have HK : Hid (w.heap.size ≠ g) := Lib.hid (by omega)
  have HM : Hid (∀ w1, Stg w b e n g w.heap.size cs w1 → Calls Try.prog 22 #[.pointer (some ⟨b + 1, 0, none⟩), .int .u32 (ad : Int), .int .i64 m] w1 fun r w' => (∃ s v, r = .returned (.tuple #[.string s, .int .i64 v])) ∧ Stg w b e n g w.heap.size cs w') := Lib.hid fun w1 h1 => read_stg ad had m w1 h1
  have HR : Hid (∀ w1, Stg w b e n g w.heap.size cs w1 → Calls Try.prog 29 #[.pointer (some ⟨g, 0, none⟩), .int .u32 (ad : Int), .int .i64 m, .int .u8 1] w1 fun r w' => (∃ s v, r = .returned (.tuple #[.string s, .int .i64 v])) ∧ ((∃ e2 A2, e ≤ e2 ∧ SpaceAt w' b e2 (n + 1) A2) ∧ Blk w' w.heap.size 34 cs ∧ Below b w w')) := Lib.hid fun w1 h1 => (rget_bare g ad m 1 w1 h1.bare).mono (by rintro r w' ⟨hr, rfl⟩; exact ⟨hr, h1.stay⟩)
  have HC : Hid (∀ w1, Blk w1 w.heap.size 34 cs → w1.cell? ⟨w.heap.size, 0, none⟩ = some (.int .i64 op) ∧ w1.cell? ⟨w.heap.size, 1, none⟩ = some (.int .u32 (ad : Int)) ∧ w1.cell? ⟨w.heap.size, 2, none⟩ = some (.int .i64 m) ∧ w1.cell? ⟨w.heap.size, 3, none⟩ = some (.string tx)) := Lib.hid fun w1 h1 => by
    rw [h1.cell, h1.cell, h1.cell, h1.cell, hcs]; exact ⟨rfl, rfl, rfl, rfl⟩
  clear hn had h hg hge hlt hbs hcs htx
  subst hop
  go_enter Try.func10, Try.ntmps10
  have hSb := HC.out _ HS.out.box
  go_wp2_with (first
    | (go_at_call 22; refine (HM.out _ HS.out).mono ?_; rintro r w1 ⟨⟨s1, v1, rfl⟩, h1⟩; have HS1 := Lib.hid h1; have hS1 := HC.out _ h1.box; clear h1)
    | (go_at_call 29; refine (HR.out _ HS1.out).mono ?_; rintro r w2 ⟨⟨s2, v2, rfl⟩, h2⟩; have HS2 := Lib.hid h2; have hS2 := HC.out _ h2.2.1; clear h2)
    | (go_at_call 30; refine (texts_any _ _ _ _ _).mono ?_; rintro r w3 ⟨⟨v3, rfl⟩, rfl⟩))
  go_ret
  exact ⟨⟨_, rfl⟩, HS2.out.1, HS2.out.2.2⟩

set_option maxHeartbeats 4000000 in
set_option maxRecDepth 100000 in
theorem does_fetch (b e n g : Nat) (A : As) (ad : Nat) (op m : Int) (tx : ByteArray) (hn : n < 1099511627776) (had : ad < 4294967296) (htx : tx.size ≤ 1099511627776) (hop : op = 6) (w : World) (h : SpaceAt w b e n A) (hg : Bare w g) (hge : b < g) :
    Calls Try.prog 10 #[.pointer (some ⟨b + 1, 0, none⟩), .pointer (some ⟨g, 0, none⟩), .agg #[.int .i64 op, .int .u32 (ad : Int), .int .i64 m, .string tx]] w fun r w' => (∃ v, r = .returned (.bool v)) ∧ (∃ e2 A2, e ≤ e2 ∧ SpaceAt w' b e2 (n + 1) A2) ∧ Below b w w' := by
  obtain ⟨cs, hcs⟩ : ∃ cs, cs = [Value.int .i64 op, .int .u32 (ad : Int), .int .i64 m, .string tx] := ⟨_, rfl⟩
  have hlt := hg.lt
  have hbs : b ≤ w.heap.size := by have := h.lo; have := h.hi; omega
  have HS : Hid (Stg w b e n g w.heap.size cs (w.alloc (.cells #[.int .i64 op, .int .u32 (ad : Int), .int .i64 m, .string tx] 34))) := Lib.hid ⟨⟨e, A, Nat.le_refl _, h.same (by simp) (fun j _ hj => Below.heap_alloc _ _ _ (by have := h.hi; omega))⟩, hg.alloc _, by rw [hcs]; exact Blk.new w _ _, (Below.refl _ _).alloc hbs _, by simp; omega, hge⟩
  have HK : Hid (w.heap.size ≠ g) := Lib.hid (by omega)
  have HM : Hid (∀ w1, Stg w b e n g w.heap.size cs w1 → Calls Try.prog 23 #[.pointer (some ⟨b + 1, 0, none⟩), .int .u32 (ad : Int)] w1 fun r w' => (∃ s v, r = .returned (.tuple #[.string s, .int .i64 v])) ∧ Stg w b e n g w.heap.size cs w') := Lib.hid fun w1 h1 => fetch_stg ad had w1 h1
  have HR : Hid (∀ w1, Stg w b e n g w.heap.size cs w1 → Calls Try.prog 29 #[.pointer (some ⟨g, 0, none⟩), .int .u32 (ad : Int), .int .i64 8, .int .u8 4] w1 fun r w' => (∃ s v, r = .returned (.tuple #[.string s, .int .i64 v])) ∧ ((∃ e2 A2, e ≤ e2 ∧ SpaceAt w' b e2 (n + 1) A2) ∧ Blk w' w.heap.size 34 cs ∧ Below b w w')) := Lib.hid fun w1 h1 => (rget_bare g ad 8 4 w1 h1.bare).mono (by rintro r w' ⟨hr, rfl⟩; exact ⟨hr, h1.stay⟩)
  have HC : Hid (∀ w1, Blk w1 w.heap.size 34 cs → w1.cell? ⟨w.heap.size, 0, none⟩ = some (.int .i64 op) ∧ w1.cell? ⟨w.heap.size, 1, none⟩ = some (.int .u32 (ad : Int)) ∧ w1.cell? ⟨w.heap.size, 2, none⟩ = some (.int .i64 m) ∧ w1.cell? ⟨w.heap.size, 3, none⟩ = some (.string tx)) := Lib.hid fun w1 h1 => by
    rw [h1.cell, h1.cell, h1.cell, h1.cell, hcs]; exact ⟨rfl, rfl, rfl, rfl⟩
  clear hn had h hg hge hlt hbs hcs htx
  subst hop
  go_enter Try.func10, Try.ntmps10
  have hSb := HC.out _ HS.out.box
  go_wp2_with (first
    | (go_at_call 23; refine (HM.out _ HS.out).mono ?_; rintro r w1 ⟨⟨s1, v1, rfl⟩, h1⟩; have HS1 := Lib.hid h1; have hS1 := HC.out _ h1.box; clear h1)
    | (go_at_call 29; refine (HR.out _ HS1.out).mono ?_; rintro r w2 ⟨⟨s2, v2, rfl⟩, h2⟩; have HS2 := Lib.hid h2; have hS2 := HC.out _ h2.2.1; clear h2)
    | (go_at_call 30; refine (texts_any _ _ _ _ _).mono ?_; rintro r w3 ⟨⟨v3, rfl⟩, rfl⟩))
  go_ret
  exact ⟨⟨_, rfl⟩, HS2.out.1, HS2.out.2.2⟩

set_option maxHeartbeats 4000000 in
set_option maxRecDepth 100000 in
theorem does_none (b e n g : Nat) (A : As) (ad : Nat) (op m : Int) (tx : ByteArray) (hn : n < 1099511627776) (had : ad < 4294967296) (htx : tx.size ≤ 1099511627776) (o0 : (op == 0) = false) (o1 : (op == 1) = false) (o2 : (op == 2) = false) (o3 : (op == 3) = false) (o4 : (op == 4) = false) (o5 : (op == 5) = false) (o6 : (op == 6) = false) (w : World) (h : SpaceAt w b e n A) (hg : Bare w g) (hge : b < g) :
    Calls Try.prog 10 #[.pointer (some ⟨b + 1, 0, none⟩), .pointer (some ⟨g, 0, none⟩), .agg #[.int .i64 op, .int .u32 (ad : Int), .int .i64 m, .string tx]] w fun r w' => (∃ v, r = .returned (.bool v)) ∧ (∃ e2 A2, e ≤ e2 ∧ SpaceAt w' b e2 (n + 1) A2) ∧ Below b w w' := by
  obtain ⟨cs, hcs⟩ : ∃ cs, cs = [Value.int .i64 op, .int .u32 (ad : Int), .int .i64 m, .string tx] := ⟨_, rfl⟩
  have hlt := hg.lt
  have hbs : b ≤ w.heap.size := by have := h.lo; have := h.hi; omega
  have HS : Hid (Stg w b e n g w.heap.size cs (w.alloc (.cells #[.int .i64 op, .int .u32 (ad : Int), .int .i64 m, .string tx] 34))) := Lib.hid ⟨⟨e, A, Nat.le_refl _, h.same (by simp) (fun j _ hj => Below.heap_alloc _ _ _ (by have := h.hi; omega))⟩, hg.alloc _, by rw [hcs]; exact Blk.new w _ _, (Below.refl _ _).alloc hbs _, by simp; omega, hge⟩
  have HK : Hid (w.heap.size ≠ g) := Lib.hid (by omega)
  skip
  skip
  have HC : Hid (∀ w1, Blk w1 w.heap.size 34 cs → w1.cell? ⟨w.heap.size, 0, none⟩ = some (.int .i64 op) ∧ w1.cell? ⟨w.heap.size, 1, none⟩ = some (.int .u32 (ad : Int)) ∧ w1.cell? ⟨w.heap.size, 2, none⟩ = some (.int .i64 m) ∧ w1.cell? ⟨w.heap.size, 3, none⟩ = some (.string tx)) := Lib.hid fun w1 h1 => by
    rw [h1.cell, h1.cell, h1.cell, h1.cell, hcs]; exact ⟨rfl, rfl, rfl, rfl⟩
  clear hn had h hg hge hlt hbs hcs htx
  go_enter Try.func10, Try.ntmps10
  have hSb := HC.out _ HS.out.box
  go_wp2
  go_ret
  exact ⟨⟨_, rfl⟩, HS.out.stay.1, HS.out.stay.2.2⟩

theorem does_bare (b e n g : Nat) (A : As) (x : Stp) (hF : x.fits) (hn : n < 1099511627776) (htx : x.tx.size ≤ 1099511627776) (w : World) (h : SpaceAt w b e n A) (hg : Bare w g) (hge : b < g) :
    Calls Try.prog 10 #[.pointer (some ⟨b + 1, 0, none⟩), .pointer (some ⟨g, 0, none⟩), .agg x.cells.toArray] w fun r w' => (∃ v, r = .returned (.bool v)) ∧ (∃ e2 A2, e ≤ e2 ∧ SpaceAt w' b e2 (n + 1) A2) ∧ Below b w w' := by
  obtain ⟨op, a, m, tx⟩ := x
  obtain ⟨⟨ha0, ha1⟩, _, _⟩ := hF
  obtain ⟨ad, rfl⟩ : ∃ ad : Nat, a = (ad : Int) := ⟨a.toNat, by simp at ha0; omega⟩
  have had : ad < 4294967296 := by simp at ha1; omega
  show Calls Try.prog 10 #[.pointer (some ⟨b + 1, 0, none⟩), .pointer (some ⟨g, 0, none⟩), .agg #[.int .i64 op, .int .u32 (ad : Int), .int .i64 m, .string tx]] w _
  by_cases o0 : op = 0
  · exact does_map b e n g A ad op m tx hn had htx o0 w h hg hge
  by_cases o1 : op = 1
  · exact does_unmap b e n g A ad op m tx hn had htx o1 w h hg hge
  by_cases o2 : op = 2
  · exact does_set b e n g A ad op m tx hn had htx o2 w h hg hge
  by_cases o3 : op = 3
  · exact does_look b e n g A ad op m tx hn had htx o3 w h hg hge
  by_cases o4 : op = 4
  · exact does_read b e n g A ad op m tx hn had htx o4 w h hg hge
  by_cases o5 : op = 5
  · exact does_write b e n g A ad op m tx hn had htx o5 w h hg hge
  by_cases o6 : op = 6
  · exact does_fetch b e n g A ad op m tx hn had htx o6 w h hg hge
  exact does_none b e n g A ad op m tx hn had htx (by simpa using o0) (by simpa using o1) (by simpa using o2) (by simpa using o3) (by simpa using o4) (by simpa using o5) (by simpa using o6) w h hg hge
end Go.Proofs.Ytfickpjecehboaa
