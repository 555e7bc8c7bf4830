/- sha.schedule: the words of a block. -/
import Derived.Test.YtkomfgoloepekaaDoorA
import Derived.Test.YtkomfgoloepekaaDoorN
import Derived.Test.YtkomfgoloepekaaDoorQT
import Derived.StillTailTactics
import Derived.Laws.Rows
import Derived.Deep.MidRow
import Derived.Deep.WholeRow
import Derived.Laws.CopyOwn
set_option linter.unusedVariables false
namespace Go.Proofs.YtkomfgoloepekaaDoor
open Go.RowKit

def u32s (l : List Nat) : List Value := l.map fun (x : Nat) => Value.int .u32 (x : Int)
def u8s (l : List Nat) : List Value := l.map fun (x : Nat) => Value.int .u8 (x : Int)
theorem u32s_length (l : List Nat) : (u32s l).length = l.length := by simp [u32s]
theorem u8s_length (l : List Nat) : (u8s l).length = l.length := by simp [u8s]
theorem u32s_get (l : List Nat) (j : Nat) (h : j < l.length) : (u32s l)[j]? = some (.int .u32 (l[j] : Int)) := by simp [u32s, h]
theorem u8s_get (l : List Nat) (j : Nat) (h : j < l.length) : (u8s l)[j]? = some (.int .u8 (l[j] : Int)) := by simp [u8s, h]
theorem u32s_getD (l : List Nat) (j : Nat) (h : j < l.length) : (u32s l)[j]? = some (.int .u32 (l.getD j 0 : Nat)) := by simp [u32s, h]
theorem u8s_getD (l : List Nat) (j : Nat) (h : j < l.length) : (u8s l)[j]? = some (.int .u8 (l.getD j 0 : Nat)) := by simp [u8s, h]
theorem u32s_set (l : List Nat) (j y : Nat) : (u32s l).set j (.int .u32 (y : Int)) = u32s (l.set j y) := by simp [u32s, List.map_set]
theorem u32s_one (l : List Nat) : ∀ v ∈ u32s l, v.oneCell' = true := by
  intro v hv; simp only [u32s, List.mem_map] at hv; obtain ⟨x, _, rfl⟩ := hv; rfl
theorem u8s_one (l : List Nat) : ∀ v ∈ u8s l, v.oneCell' = true := by
  intro v hv; simp only [u8s, List.mem_map] at hv; obtain ⟨x, _, rfl⟩ := hv; rfl

/-- Block g is just the cells cs of element type t, none frozen. -/
def Blk (w : World) (g : Nat) (t : TypeId) (cs : List Value) : Prop := w.heap[g]? = some (.cells cs.toArray t (0, 0))
section
variable {w w' : World} {g : Nat} {t : TypeId} {cs : List Value}
theorem Blk.lt (h : Blk w g t cs) : g < w.heap.size := by
  rcases Nat.lt_or_ge g w.heap.size with hlt | hge
  · exact hlt
  · unfold Blk at h; rw [Array.getElem?_eq_none hge] at h; cases h
theorem Blk.cell (h : Blk w g t cs) (i : Nat) : w.cell? ⟨g, i, none⟩ = cs[i]? := by rw [cell_of_row w g i _ t (0, 0) h]; simp
theorem Blk.frozen (h : Blk w g t cs) (i : Nat) : w.frozen? ⟨g, i, none⟩ = false := by
  unfold Blk at h
  simp [World.frozen?, h]
theorem Blk.new (w : World) (t : TypeId) (cs : List Value) : Blk (w.alloc (.cells cs.toArray t)) w.heap.size t cs := heap_alloc_new w _
theorem Blk.drew (h : Blk w g t cs) : Blk w.drew g t cs := h
theorem Blk.drewN (h : Blk w g t cs) (n : Nat) : Blk (w.drewN n) g t cs := h
theorem Blk.alloc (h : Blk w g t cs) (o : Obj) : Blk (w.alloc o) g t cs := (Below.heap_alloc w o g h.lt).trans h
theorem Blk.set_ (h : Blk w g t cs) (i : Nat) (u : Value) : Blk (w.setCell ⟨g, i, none⟩ u) g t (cs.set i u) := by
  unfold Blk at h ⊢
  simp [World.setCell, Array.getElem?_modify, h]
theorem Blk.far (h : Blk w g t cs) {p : Addr} (hp : g ≠ p.block) (u : Value) : Blk (w.setCell p u) g t cs := (Below.heap_setCell w p u g hp).trans h
theorem Blk.below {B : Nat} (h : Blk w g t cs) (hb : Below B w w') (hg : g < B) : Blk w' g t cs := (hb.block g hg).trans h
theorem Blk.grown {row : Option Nat} (h : Blk w g t cs) (hb : w.grownBy w' row) (hg : some g ≠ row) : Blk w' g t cs := (hb.block g h.lt hg).trans h
end

theorem Blk.setRow {w : World} {g : Nat} {t : TypeId} {cs : List Value} (h : Blk w g t cs) (c2 : List Value) : Blk (w.setRow g c2.toArray) g t c2 := setRow_heap w g _ _ t _ h
theorem Blk.farRow {w : World} {g : Nat} {t : TypeId} {cs : List Value} (h : Blk w g t cs) (k : Nat) (hk : g ≠ k) (c2 : Array Value) : Blk (w.setRow k c2) g t cs := (setRow_other w k g c2 hk).trans h
theorem oneAll {l : List Value} (h : ∀ v ∈ l, v.oneCell' = true) : l.toArray.all (·.oneCell') = true := Array.all_eq_true_iff_forall_mem.2 (fun v hv => h v (by simpa using hv))
theorem below_drewN {B : Nat} {a w : World} (h : Below B a w) (n : Nat) : Below B a (w.drewN n) := ⟨h.os, h.tape, h.output, h.size, h.block⟩
theorem heap_alloc_new' (w : World) (o : Obj) (i : Nat) (h : i = w.heap.size) : (w.alloc o).heap[i]? = some o := by subst h; exact heap_alloc_new w o
/-- Sixty-four zeros, written out. -/
theorem zeros64 : #[Value.int IntKind.u32 0, Value.int IntKind.u32 0, Value.int IntKind.u32 0, Value.int IntKind.u32 0, Value.int IntKind.u32 0, Value.int IntKind.u32 0, Value.int IntKind.u32 0, Value.int IntKind.u32 0, Value.int IntKind.u32 0, Value.int IntKind.u32 0, Value.int IntKind.u32 0, Value.int IntKind.u32 0, Value.int IntKind.u32 0, Value.int IntKind.u32 0, Value.int IntKind.u32 0, Value.int IntKind.u32 0, Value.int IntKind.u32 0, Value.int IntKind.u32 0, Value.int IntKind.u32 0, Value.int IntKind.u32 0, Value.int IntKind.u32 0, Value.int IntKind.u32 0, Value.int IntKind.u32 0, Value.int IntKind.u32 0, Value.int IntKind.u32 0, Value.int IntKind.u32 0, Value.int IntKind.u32 0, Value.int IntKind.u32 0, Value.int IntKind.u32 0, Value.int IntKind.u32 0, Value.int IntKind.u32 0, Value.int IntKind.u32 0, Value.int IntKind.u32 0, Value.int IntKind.u32 0, Value.int IntKind.u32 0, Value.int IntKind.u32 0, Value.int IntKind.u32 0, Value.int IntKind.u32 0, Value.int IntKind.u32 0, Value.int IntKind.u32 0, Value.int IntKind.u32 0, Value.int IntKind.u32 0, Value.int IntKind.u32 0, Value.int IntKind.u32 0, Value.int IntKind.u32 0, Value.int IntKind.u32 0, Value.int IntKind.u32 0, Value.int IntKind.u32 0, Value.int IntKind.u32 0, Value.int IntKind.u32 0, Value.int IntKind.u32 0, Value.int IntKind.u32 0, Value.int IntKind.u32 0, Value.int IntKind.u32 0, Value.int IntKind.u32 0, Value.int IntKind.u32 0, Value.int IntKind.u32 0, Value.int IntKind.u32 0, Value.int IntKind.u32 0, Value.int IntKind.u32 0, Value.int IntKind.u32 0, Value.int IntKind.u32 0, Value.int IntKind.u32 0, Value.int IntKind.u32 0] = (List.replicate 64 (Value.int .u32 0)).toArray := rfl
theorem info64 : (Tryd.prog.info? 53).map (·.size) = some 64 := by kernel_rfl
theorem infow : (Tryd.prog.info? 63).map (·.size) = some 64 := by kernel_rfl
theorem info8 : (Tryd.prog.info? 51).map (·.size) = some 8 := by kernel_rfl
theorem infoOne (t : TypeId) (k : IntKind) (ht : Tryd.prog.underlying t = some (.int k)) (hi : (Tryd.prog.info? t).map (·.size) = some 1) (cs : Array Value) (i : Nat) (v : Value) (hv : cs[i]? = some v) (w : World) :
    (part t cs (i * 1)).run Tryd.prog w = .ok v w := by
  have hagg : (isAgg t).run Tryd.prog w = .ok false w := by
    unfold isAgg
    rw [Sem.run_bind, run_underlying ht w]
    simp
  unfold part
  rw [Sem.run_bind, hagg]
  simp [Result.andThen_ok, hv]
theorem run_index_one {T e : TypeId} {n : Nat} {k : IntKind} (hT : Tryd.prog.underlying T = some (.array n e)) (he : Tryd.prog.underlying e = some (.int k)) (hi : (Tryd.prog.info? e).map (·.size) = some 1)
    (cs : Array Value) (i : Nat) (hin : i < n) (v : Value) (hv : cs[i]? = some v) (w : World) :
    (Instr.index T (.agg cs) (.int .i64 (i : Int))).run Tryd.prog w = .ok v w := by
  have hsz : (sizeOf e).run Tryd.prog w = .ok 1 w := by
    cases hq : Tryd.prog.info? e with
    | none => simp [hq] at hi
    | some j =>
      have hs : j.size = 1 := by simpa [hq] using hi
      simp [sizeOf, typeInfo, hq, hs]
  have hp := infoOne e k he hi cs i v hv w
  rw [Nat.mul_one] at hp
  have h1 : (0 : Int) ≤ (i : Int) ∧ (i : Int) < (n : Int) := by omega
  simp [Instr.index, asIntOf, run_underlying hT, h1, hsz, hp]
  intro h
  omega
theorem infob : (Tryd.prog.info? 5).map (·.size) = some 1 := by kernel_rfl
theorem info4 : (Tryd.prog.info? 48).map (·.size) = some 1 := by kernel_rfl

theorem spread_h (x i j k : Nat) (hx : x < 4294967296) (hi : 1 ≤ i) (hi2 : i ≤ 31) (hj : 1 ≤ j) (hj2 : j ≤ 31) (hk : 1 ≤ k) (hk2 : k ≤ 31) (w : World) (n : Nat) :
    Calls Tryd.prog 43 #[.int .u32 (x : Int), .int .i64 (i : Int), .int .i64 (j : Int), .int .i64 (k : Int)] (w.drewN n) fun e w' => e = .returned (.int .u32 (rotr x i ^^^ rotr x j ^^^ (x / 2 ^ k) : Nat)) ∧ ∃ m, w' = (w.drewN n).drewN m :=
  spread_any x i j k hx hi hi2 hj hj2 hk hk2 _

theorem spread0 (x : Nat) (HX : Hid (x < 4294967296)) (w : World) (n : Nat) :
    Calls Tryd.prog 43 #[.int .u32 (x : Int), .int .i64 7, .int .i64 18, .int .i64 3] (w.drewN n) fun e w' => e = .returned (.int .u32 (Sh.s0 x : Nat)) ∧ ∃ m, w' = (w.drewN n).drewN m :=
  spread_h x 7 18 3 HX.out (by decide) (by decide) (by decide) (by decide) (by decide) (by decide) w n
theorem spread1 (x : Nat) (HX : Hid (x < 4294967296)) (w : World) (n : Nat) :
    Calls Tryd.prog 43 #[.int .u32 (x : Int), .int .i64 17, .int .i64 19, .int .i64 10] (w.drewN n) fun e w' => e = .returned (.int .u32 (Sh.s1 x : Nat)) ∧ ∃ m, w' = (w.drewN n).drewN m :=
  spread_h x 17 19 10 HX.out (by decide) (by decide) (by decide) (by decide) (by decide) (by decide) w n
theorem shl8 (x : Nat) : ((x : Int) * 256 % 4294967296) = ((x * 256 % 4294967296 : Nat) : Int) := by omega

set_option maxHeartbeats 400000 in
set_option maxRecDepth 100000 in
theorem schedule_any (b : List Nat) (hb : b.length = 64) (hs : ∀ x ∈ b, x < 256) (w : World) :
    Calls Tryd.prog 37 #[.agg (u8s b).toArray] w fun e w' => e = .returned (.agg (u32s (Sh.words b)).toArray) ∧ Below w.heap.size w w' := by
  have HB := Lib.hid hb
  have HS := Lib.hid hs
  clear hb hs
  obtain ⟨cs, hcs⟩ : ∃ cs, cs = (u8s b).toArray := ⟨_, rfl⟩
  have HCs := Lib.hid hcs
  rw [← hcs]
  clear hcs
  have HI : Hid (∀ (i : Nat) w, i < 64 → (Instr.index 53 (.agg cs) (.int .i64 (i : Int))).run Tryd.prog w = .ok (.int .u8 (b.getD i 0 : Nat)) w) :=
    Lib.hid (fun i w hi => run_index_one Tryd.underlying53 Tryd.underlying5 infob cs i hi _ (by rw [HCs.out]; simpa using u8s_getD b i (by rw [HB.out]; exact hi)) w)
  go_enter Tryd.func37, Tryd.ntmps37
  go_wp2_with (refine wpList_load_row rfl 53 (.tmp 1) rfl w.heap.size rfl 53 cs (0, 0) _ ?c1 Tryd.underlying53 rfl ?c2 ?_)
  case c1 => rw [Below.heap_alloc _ _ _ (by simp; omega), Below.heap_alloc _ _ _ (by simp), heap_alloc_new' _ _ _ rfl]
  case c2 => rw [info64, HCs.out]; simp [u8s, HB.out]
  have HZ : Hid (u32s (Sh.part b 0) = List.replicate 64 (.int .u32 0)) := Lib.hid (by simp [u32s, Sh.part])
  obtain ⟨wr, hwr⟩ : ∃ wr, wr = ((w.alloc (.cells cs 53)).alloc (.cells (List.replicate 64 (Value.int .u32 0)).toArray 63)).alloc (.cells (List.replicate 64 (Value.int .u32 0)).toArray 63) := ⟨_, rfl⟩
  have b1 : Blk wr (w.heap.size + 1) 63 (List.replicate 64 (.int .u32 0)) := by
    rw [hwr]
    unfold Blk
    rw [Below.heap_alloc _ _ _ (by simp), heap_alloc_new' _ _ _ (by simp)]
  have b2 : Blk wr (w.heap.size + 1 + 1) 63 (u32s (Sh.part b 0)) := by
    rw [hwr, HZ.out]
    unfold Blk
    rw [heap_alloc_new' _ _ _ (by simp)]
  have hb : Below w.heap.size w wr := by
    rw [hwr]
    exact (((Below.refl _ _).alloc (Nat.le_refl _) _).alloc (by simp) _).alloc (by simp; omega) _
  rw [zeros64, ← hwr]
  clear hwr
  have Hb1 := Lib.hid b1
  have HWS : Hid (w.heap.size + 1 < wr.heap.size) := Lib.hid b1.lt
  have Hb2 := Lib.hid b2
  clear b1 b2 HZ
  obtain ⟨H, hH⟩ : ∃ H, H = w.heap.size := ⟨_, rfl⟩
  rw [← hH] at hb Hb1 Hb2 ⊢
  have HH := Lib.hid hH
  clear hH
  go_loopw [8] (fun t8 wr => ∃ i : Nat, i ≤ 64 ∧ t8 = .int .i64 i ∧ Hid (Blk wr (H + 1 + 1) 63 (u32s (Sh.part b i))) ∧ Hid (Blk wr (H + 1) 63 (List.replicate 64 (.int .u32 0))) ∧ Below H w wr) (fun t8 _ => (64 - intOf t8).toNat)
  case atStart => exact ⟨0, by omega, rfl, Hb2, Hb1, hb⟩
  case round =>
    clear Hb1 Hb2 hb HWS
    obtain ⟨i, hi, rfl, HP, HR, hb⟩ := hrel
    by_cases hlt : i < 64
    · obtain ⟨x, hx⟩ : ∃ x, (Sh.part b i).getD (i / 4) 0 = x := ⟨_, rfl⟩
      obtain ⟨y, hy⟩ : ∃ y, b.getD i 0 = y := ⟨_, rfl⟩
      have g := HP.out.cell (i / 4)
      rw [u32s_getD _ _ (by rw [Sh.part_length]; omega), hx] at g
      have gf := HP.out.frozen (i / 4)
      have hy2 : y < 256 := by rw [← hy]; exact Sh.getD_lt b 256 (by decide) HS.out i
      have hx2 : x < 4294967296 := by rw [← hx]; exact Sh.getD_lt _ _ (by decide) (Sh.part_small b HS.out i) _
      obtain ⟨z, hz⟩ : ∃ z : Nat, z = (x * 256 % 4294967296 ||| y) := ⟨_, rfl⟩
      have HO : Hid (bits .or .u32 ((x : Int) * 256 % 4294967296) (y : Int) = (z : Int)) := by
        rw [shl8, hz]; exact Lib.hid (u32_or_nat _ _ (Nat.mod_lt _ (by decide)) (by omega))
      have HN : Hid (Blk (wr.setCell ⟨H + 1 + 1, i / 4, none⟩ (.int .u32 (z : Int))) (H + 1 + 1) 63 (u32s (Sh.part b (i + 1)))) := by
        have h := HP.out.set_ (i / 4) (.int .u32 (z : Int))
        rw [u32s_set] at h
        rw [Sh.part_succ, hx, hy, ← hz]
        exact Lib.hid h
      have HR2 : ∀ u, Hid (Blk (wr.setCell ⟨H + 1 + 1, i / 4, none⟩ u) (H + 1) 63 (List.replicate 64 (.int .u32 0))) := fun u => Lib.hid (HR.out.far (by simp) u)
      have HB2 : ∀ u, Hid (Below H w (wr.setCell ⟨H + 1 + 1, i / 4, none⟩ u)) := fun u => Lib.hid (hb.setCell (p := ⟨H + 1 + 1, i / 4, none⟩) (by simp; omega) u)
      have hidx := HI.out i wr hlt
      rw [hy] at hidx
      have d1 : (0 : Int) ≤ (i : Int) / 4 := by omega
      have d2 : (i : Int) / 4 < 64 := by omega
      have d3 : ((i : Int) / 4).toNat = i / 4 := by omega
      obtain ⟨X, hX⟩ : ∃ X : Int, X = (x : Int) := ⟨_, rfl⟩
      obtain ⟨Y, hY⟩ : ∃ Y : Int, Y = (y : Int) := ⟨_, rfl⟩
      have y0 : (0 : Int) ≤ Y := by omega
      have y1 : Y < 256 := by omega
      have x0 : (0 : Int) ≤ X := by omega
      have x1 : X < 4294967296 := by omega
      rw [← hX] at g HO
      rw [← hY] at hidx HO
      clear hX hY
      have Hx := Lib.hid hx
      have Hy := Lib.hid hy
      have HR2' := Lib.hid HR2
      have HB2' := Lib.hid HB2
      clear hx hy HR2 HB2 hy2 hx2 hz Hx Hy
      go_wp2
      rw [HO.out]
      go_roundw
      case rel => exact ⟨i + 1, by omega, by go_num, HN, HR2'.out _, (HB2'.out _).out⟩
      case measure => simp [intOf]; omega
    · have hi64 : i = 64 := by omega
      subst hi64
      rw [show ((64 : Nat) : Int) = 64 from rfl]
      go_wp2
      have HP2 : Hid (Blk wr (H + 1 + 1) 63 (u32s (Sh.full b 16))) := by rw [← Sh.full_first b HS.out]; exact HP
      go_loopw [6] (fun t6 wr => ∃ t : Nat, 16 ≤ t ∧ t ≤ 64 ∧ t6 = .int .i64 t ∧ Hid (Blk wr (H + 1 + 1) 63 (u32s (Sh.full b t))) ∧ Hid (Blk wr (H + 1) 63 (List.replicate 64 (.int .u32 0))) ∧ Below H w wr) (fun t6 _ => (64 - intOf t6).toNat)
      case atStart => exact ⟨16, by omega, by omega, rfl, HP2, HR, hb⟩
      case round =>
        clear HP2 HP HR hb
        obtain ⟨t, ht16, ht64, rfl, HP, HR, hb⟩ := hrel
        by_cases hlt2 : t < 64
        · obtain ⟨x0, e0⟩ : ∃ x, (Sh.full b t).getD (t - 16) 0 = x := ⟨_, rfl⟩
          obtain ⟨x1, e1⟩ : ∃ x, (Sh.full b t).getD (t - 15) 0 = x := ⟨_, rfl⟩
          obtain ⟨x2, e2⟩ : ∃ x, (Sh.full b t).getD (t - 7) 0 = x := ⟨_, rfl⟩
          obtain ⟨x3, e3⟩ : ∃ x, (Sh.full b t).getD (t - 2) 0 = x := ⟨_, rfl⟩
          have hfl := Sh.full_length b t ht16 ht64
          have g0 := HP.out.cell (t - 16)
          rw [u32s_getD _ _ (by omega), e0] at g0
          have g1 := HP.out.cell (t - 15)
          rw [u32s_getD _ _ (by omega), e1] at g1
          have g2 := HP.out.cell (t - 7)
          rw [u32s_getD _ _ (by omega), e2] at g2
          have g3 := HP.out.cell (t - 2)
          rw [u32s_getD _ _ (by omega), e3] at g3
          have g4 := HP.out.cell t
          rw [u32s_getD _ _ (by omega)] at g4
          have gf := HP.out.frozen t
          have EX : Hid (x1 < 4294967296) := by rw [← e1]; exact Lib.hid (Sh.getD_lt _ _ (by decide) (Sh.full_small b HS.out t) _)
          have EY : Hid (x3 < 4294967296) := by rw [← e3]; exact Lib.hid (Sh.getD_lt _ _ (by decide) (Sh.full_small b HS.out t) _)
          have m1 : (0 : Int) ≤ (t : Int) - 16 := by omega
          have m2 : (0 : Int) ≤ (t : Int) - 15 := by omega
          have m3 : (0 : Int) ≤ (t : Int) - 7 := by omega
          have m4 : (0 : Int) ≤ (t : Int) - 2 := by omega
          have m5 : (0 : Int) ≤ (t : Int) := by omega
          have o1 : (t : Int) - 16 < 64 := by omega
          have o2 : (t : Int) - 15 < 64 := by omega
          have o3 : (t : Int) - 7 < 64 := by omega
          have o4 : (t : Int) - 2 < 64 := by omega
          have o5 : (t : Int) < 64 := by omega
          have n1 : ((t : Int) - 16).toNat = t - 16 := by omega
          have n2 : ((t : Int) - 15).toNat = t - 15 := by omega
          have n3 : ((t : Int) - 7).toNat = t - 7 := by omega
          have n4 : ((t : Int) - 2).toNat = t - 2 := by omega
          have i1 : IntKind.i64.wrap ((t : Int) - 16) = (t : Int) - 16 := IntWalk.i64_in _ (by omega)
          have i2 : IntKind.i64.wrap ((t : Int) - 15) = (t : Int) - 15 := IntWalk.i64_in _ (by omega)
          have i3 : IntKind.i64.wrap ((t : Int) - 7) = (t : Int) - 7 := IntWalk.i64_in _ (by omega)
          have i4 : IntKind.i64.wrap ((t : Int) - 2) = (t : Int) - 2 := IntWalk.i64_in _ (by omega)
          have HE := Lib.hid (And.intro e0 (And.intro e1 (And.intro e2 e3)))
          clear e0 e1 e2 e3 hfl
          go_wp2_with fail
          refine wp_region_quiet_tail 23 (by kernel_rfl) (by kernel_rfl) ?_
          simp only [List.take_succ_cons, List.take_zero, List.drop_succ_cons, List.drop_zero]
          repeat (go_big_quiet_step ((go_at_call 43; first | with_reducible exact Calls.quiet_of (spread0 _ EX _ _) | with_reducible exact Calls.quiet_of (spread1 _ EY _ _))))
          refine wpQuiet_nil ?_
          intro _ hw'
          obtain ⟨nq, hw''⟩ := hw'
          subst hw''
          obtain ⟨wq, hwq⟩ : ∃ wq, wq = wr.drewN nq := ⟨_, rfl⟩
          have HP3 : Hid (Blk wq (H + 1 + 1) 63 (u32s (Sh.full b t))) := by rw [hwq]; exact HP
          have HR3 : Hid (Blk wq (H + 1) 63 (List.replicate 64 (.int .u32 0))) := by rw [hwq]; exact HR
          have hb3 : Below H w wq := by rw [hwq]; exact below_drewN hb nq
          rw [← hwq]
          clear hwq g0 g1 g2 g3 g4 gf HP HR hb m1 m2 m3 m4 o1 o2 o3 o4 n1 n2 n3 n4 i1 i2 i3 i4
          obtain ⟨z, hz⟩ : ∃ z : Nat, z = (x0 + Sh.s0 x1 + x2 + Sh.s1 x3) % 4294967296 := ⟨_, rfl⟩
          have HV : Hid ((((x0 : Int) + (Sh.s0 x1 : Nat) + (x2 : Int)) % 4294967296 + (Sh.s1 x3 : Nat)) % 4294967296 = (z : Int)) := by
            rw [hz]; generalize Sh.s0 x1 = p; generalize Sh.s1 x3 = q; exact Lib.hid (by omega)
          have HN : Hid (Blk (wq.setCell ⟨H + 1 + 1, t, none⟩ (.int .u32 (z : Int))) (H + 1 + 1) 63 (u32s (Sh.full b (t + 1)))) := by
            have h := HP3.out.set_ t (.int .u32 (z : Int))
            rw [u32s_set] at h
            obtain ⟨e0, e1, e2, e3⟩ := HE.out
            rw [Sh.full_next b t ht16 hlt2, e0, e1, e2, e3, ← hz]
            exact Lib.hid h
          have HR4 : Hid (Blk (wq.setCell ⟨H + 1 + 1, t, none⟩ (.int .u32 (z : Int))) (H + 1) 63 (List.replicate 64 (.int .u32 0))) := Lib.hid (HR3.out.far (by simp) _)
          have HB4 : Hid (Below H w (wq.setCell ⟨H + 1 + 1, t, none⟩ (.int .u32 (z : Int)))) := Lib.hid (hb3.setCell (p := ⟨H + 1 + 1, t, none⟩) (by simp; omega) _)
          have g4 := HP3.out.cell t
          rw [u32s_getD _ _ (by rw [Sh.full_length b t ht16 ht64]; omega)] at g4
          generalize (Sh.full b t).getD t 0 = old at g4
          have gf := HP3.out.frozen t
          rw [HV.out]
          clear HV hz HE HP3 HR3 hb3
          go_wp2
          go_roundw
          case rel => exact ⟨t + 1, by omega, by omega, by go_num, HN, HR4, HB4.out⟩
          case measure => simp [intOf]; omega
        · have ht : t = 64 := by omega
          subst ht
          rw [show ((64 : Nat) : Int) = 64 from rfl]
          have HQ : Hid (Blk wr (H + 1 + 1) 63 (u32s (Sh.words b))) := by rw [← Sh.full_last]; exact HP
          have HL : Hid ((u32s (Sh.words b)).length = 64) := Lib.hid (by rw [u32s_length, Sh.words_length])
          clear HP
          generalize hW : u32s (Sh.words b) = W at *
          have H1 : Hid (∀ v ∈ W, v.oneCell' = true) := by rw [← hW]; exact Lib.hid (u32s_one _)
          have HW : Hid (W = u32s (Sh.words b)) := Lib.hid hW.symm
          clear hW
          have K1 : Hid ((Tryd.prog.info? 63).map (·.size) = some W.toArray.size) := Lib.hid (by rw [infow]; simp [HL.out])
          have K2 : Hid ((List.replicate 64 (Value.int .u32 0)).toArray.size = W.toArray.size) := Lib.hid (by simp [HL.out])
          go_wp2_with (first
            | (refine wpList_load_row rfl 63 (.tmp 3) rfl (H + 1 + 1) rfl 63 W.toArray (0, 0) _ HQ.out Tryd.underlying63 rfl K1.out ?_)
            | (refine wpList_store_row rfl 63 (.tmp 2) (.tmp 51) rfl (H + 1) W.toArray rfl rfl 63 (List.replicate 64 (Value.int IntKind.u32 0)).toArray HR.out K1.out K2.out (oneAll H1.out) ?_))
          go_wp2
          have HR5 : Blk (wr.setRow (H + 1) W.toArray) (H + 1) 63 W := HR.out.setRow W
          have hres := results_cell_row (P := Tryd.prog) (fn := Tryd.f37) Tryd.results37
          refine bodyPost_ret (v := .agg W.toArray) ?h1 ?h2 ?h3
          case h1 =>
            refine hres _ _ (H + 1) 63 W.toArray (0, 0) (.array 64 48) ?_ HR5 Tryd.underlying63 rfl K1.out
            rfl
          case h2 => rfl
          case h3 => exact ⟨by rw [HW.out], by rw [← HH.out]; exact below_setRow hb (show H ≤ H + 1 by omega) _⟩
end Go.Proofs.YtkomfgoloepekaaDoor
