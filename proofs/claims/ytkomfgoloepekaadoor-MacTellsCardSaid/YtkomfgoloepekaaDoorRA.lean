/- aediculeref02.mul: the product of two numbers in parts of 32 bits. -/
import Derived.Test.YtkomfgoloepekaaDoorB
import Derived.Test.YtkomfgoloepekaaDoorRM
import Derived.WalkKit
import Derived.WalkSpells
import Derived.WalkLawsBesides
import Derived.LoopTactic
import Derived.Outline
import Derived.Lib.Hide
import Derived.Laws.OwnMore
import Derived.Deep.QuietTactic
import Derived.BigQuiet
import Derived.IntWalk
import Derived.Laws.Bits64
set_option linter.unusedVariables false
namespace Go.Proofs.YtkomfgoloepekaaDoor.Rf
open Go.RowKit

theorem infoU : (Tryd.prog.info? 48).map (fun i => (i.zero, i.size, i.bytes)) = some (some (.int .u32 0), 1, 4) := by kernel_rfl

/-- A slice of uint32 that holds the numbers l, in a row from block B on. -/
def OwnU (B : Nat) (l : List Nat) (v : Value) (w : World) : Prop := w.ownsRow B 48 1 v l.length (u32s l)
def Small (l : List Nat) : Prop := ∀ x ∈ l, x < 4294967296

theorem made_zero (n : Nat) : (madeCells (Value.int .u32 0).cells (n * 1)).toList = u32s (List.replicate n 0) := by
  apply List.ext_getElem
  · simp [madeCells, u32s]
  · intro i h1 h2
    simp [madeCells, u32s, Value.cells]
    rw [Nat.mod_one]; rfl

theorem zip4 (v : Nat) (h : v < 18446744073709551616) : IntKind.u64.wrap (v : Int) = (v : Int) := by
  rw [IntKind.wrap_u64]; omega

set_option maxHeartbeats 2000000 in
set_option maxRecDepth 100000 in
theorem mul_any (la lb : List Nat) (ga gb ca cb : Nat) (w : World) (ha : OwnU 0 la (.slice (some ⟨ga, 0, none⟩) la.length ca) w) (hb : OwnU 0 lb (.slice (some ⟨gb, 0, none⟩) lb.length cb) w)
    (hga : ga < w.heap.size) (hgb : gb < w.heap.size) (sa : Small la) (sb : Small lb) (na : la.length ≤ 100) (nb : lb.length ≤ 100) :
    Calls Tryd.prog 41 #[.slice (some ⟨ga, 0, none⟩) la.length ca, .slice (some ⟨gb, 0, none⟩) lb.length cb] w fun e w' =>
      ∃ o : List Nat, e = .returned (.slice (some ⟨w.heap.size, 0, none⟩) o.length o.length) ∧ OwnU w.heap.size o (.slice (some ⟨w.heap.size, 0, none⟩) o.length o.length) w' ∧
        o.length = la.length + lb.length ∧ Small o ∧ Sh.val o = Sh.val la * Sh.val lb ∧ Below w.heap.size w w' ∧ w.heap.size < w'.heap.size := by
  obtain ⟨i0, hi, hz0, hz1, hz2⟩ := info_parts infoU
  have HA := Lib.hid ha
  have HB := Lib.hid hb
  have HSA := Lib.hid sa
  have HSB := Lib.hid sb
  clear ha hb sa sb
  obtain ⟨n, hn⟩ : ∃ n, n = la.length + lb.length := ⟨_, rfl⟩
  have HN := Lib.hid hn
  have hn200 : n ≤ 200 := by omega
  have hbytes : i0.bytes * n ≤ 281474976710656 := by rw [hz2]; omega
  have hL : (la.length : Int) + (lb.length : Int) = (n : Int) := by omega
  clear hn
  have HL := Lib.hid hL
  clear hL
  go_enter Tryd.func41, Tryd.ntmps41
  go_wp2_with (at_make; refine wpList_make_full w rfl _ _ 44 rfl w.heap.size 48 i0 (.int .u32 0) 1 Tryd.underlying44 hi hz0 hz1 .i64 .i64 _ _ n rfl rfl HL.out HL.out hbytes (by unfold maxLen; omega) (Nat.le_refl _) ?_; intro w1 hown hgrow)
  have hcells : w1.ownsRow w.heap.size 48 1 (.slice (some ⟨w.heap.size, 0, none⟩) n n) n (u32s (List.replicate n 0)) := by rw [← made_zero]; exact hown
  have hb1 : Below w.heap.size w w1 := (Below.refl _ w).grown hgrow (Nat.le_refl _) (fun k h => by cases h)
  have hsz1 := (hcells.lt w.heap.size rfl).2
  have H1 := Lib.hid hcells
  have HZ := Lib.hid (List.length_replicate (n := n) (a := 0))
  clear hown hcells hgrow
  go_loopw [6] (fun t6 wr => ∃ (i : Nat) (o : List Nat), i ≤ la.length ∧ t6 = .int .i64 i ∧ Hid (wr.ownsRow w.heap.size 48 1 (.slice (some ⟨w.heap.size, 0, none⟩) n n) n (u32s o)) ∧
      Hid (o.length = n ∧ Small o ∧ Sh.val o = Sh.val (la.take i) * Sh.val lb ∧ ∀ j (h : j < o.length), i + lb.length ≤ j → o[j] = 0) ∧ Below w.heap.size w wr ∧ w.heap.size < wr.heap.size) (fun t6 _ => la.length - (intOf t6).toNat)
  case atStart =>
    refine ⟨0, List.replicate n 0, Nat.zero_le _, rfl, H1, Lib.hid ⟨by simp, fun x hx => by simp at hx; omega, ?_, fun j h _ => by simp⟩, hb1, hsz1⟩
    rw [Sh.val_zero _ (fun x hx => by simp at hx; exact hx.2)]; simp [Sh.val]
  case round =>
    obtain ⟨i, o, hi1, rfl, HO, HF, hbel, hsz⟩ := hrel
    by_cases hlt : i < la.length
    · obtain ⟨wo, rfl⟩ : ∃ wo : World, wo = wr := ⟨_, rfl⟩
      go_wp2
      go_loopw [7, 8] (fun t7 t8 wr => ∃ (k c : Nat) (o' : List Nat), k ≤ lb.length ∧ t8 = .int .i64 k ∧ t7 = .int .u64 c ∧ c < 4294967296 ∧ Hid (wr.ownsRow w.heap.size 48 1 (.slice (some ⟨w.heap.size, 0, none⟩) n n) n (u32s o')) ∧
          Hid (o'.length = n ∧ Small o' ∧ Sh.val o' + c * 2 ^ (32 * (i + k)) = Sh.val (la.take i) * Sh.val lb + la[i] * Sh.val (lb.take k) * 2 ^ (32 * i) ∧ ∀ j (h : j < o'.length), i + lb.length ≤ j → o'[j] = 0) ∧ Below w.heap.size w wr ∧ w.heap.size < wr.heap.size) (fun _ t8 _ => lb.length - (intOf t8).toNat)
      case atStart =>
        obtain ⟨f1, f2, f3, f4⟩ := HF.out
        exact ⟨0, 0, o, Nat.zero_le _, rfl, rfl, by omega, HO, Lib.hid ⟨f1, f2, by rw [f3]; simp [Sh.val], f4⟩, hbel, hsz⟩
      case round =>
        obtain ⟨k, c, o', hk1, rfl, rfl, hc, HO', HF', hbel', hsz'⟩ := hrel
        by_cases hlk : k < lb.length
        · have hik : i + k < n := by have := HN.out; omega
          obtain ⟨x, hx⟩ : ∃ x, la[i] = x := ⟨_, rfl⟩
          obtain ⟨y, hy⟩ : ∃ y, lb[k] = y := ⟨_, rfl⟩
          obtain ⟨q, hq⟩ : ∃ q, o'[i + k]'(by have := HF'.out.1; omega) = q := ⟨_, rfl⟩
          have sx : x < 4294967296 := by rw [← hx]; exact HSA.out _ (List.getElem_mem _)
          have sy : y < 4294967296 := by rw [← hy]; exact HSB.out _ (List.getElem_mem _)
          have sq : q < 4294967296 := by rw [← hq]; exact HF'.out.2.1 _ (List.getElem_mem _)
          have over := Sh.over_lt x y q c sx sy sq hc
          have g1 : wr.cell? ⟨ga, i, none⟩ = some (.int .u32 (x : Int)) := by
            rw [hbel'.cell (p := ⟨ga, i, none⟩) hga, World.ownsRow.cellAt HA.out i (by omega), u32s_get _ _ hlt, hx]
          have g2 : wr.cell? ⟨gb, k, none⟩ = some (.int .u32 (y : Int)) := by
            rw [hbel'.cell (p := ⟨gb, k, none⟩) hgb, World.ownsRow.cellAt HB.out k (by omega), u32s_get _ _ hlk, hy]
          have g3 : wr.cell? ⟨w.heap.size, i + k, none⟩ = some (.int .u32 (q : Int)) := by
            rw [World.ownsRow.cellAt HO'.out (i + k) (by omega), u32s_get _ _ (by have := HF'.out.1; omega), hq]
          have hvi : IntKind.u64.wrap (IntKind.u64.wrap (IntKind.u64.wrap (IntKind.u64.wrap (x : Int) * IntKind.u64.wrap (y : Int)) + IntKind.u64.wrap (q : Int)) + (c : Int)) = ((x * y + q + c : Nat) : Int) := by
            rw [zip4 x (by omega), zip4 y (by omega), zip4 q (by omega), ← Int.natCast_mul, zip4 (x * y) (by omega), ← Int.natCast_add, zip4 (x * y + q) (by omega), ← Int.natCast_add, zip4 _ over]
          have Hvi := Lib.hid hvi
          clear hvi
          have b1 : (0 : Int) ≤ (i : Int) + (k : Int) := by omega
          have b2 : (i : Int) + (k : Int) < (n : Int) := by omega
          have b3 : (0 : Int) ≤ (i : Int) := by omega
          have b4 : (i : Int) < (la.length : Int) := by omega
          have b5 : (0 : Int) ≤ (k : Int) := by omega
          have b6 : (k : Int) < (lb.length : Int) := by omega
          have e1 : IntKind.i64.wrap ((i : Int) + (k : Int)) = (i : Int) + (k : Int) := IntWalk.i64_in _ (by omega)
          have e2 : ((i : Int) + (k : Int)).toNat = i + k := by omega
          have Hx := Lib.hid hx
          have Hy := Lib.hid hy
          have Hq := Lib.hid hq
          have Hover := Lib.hid over
          clear hx hy hq sx sy sq over
          go_wp2_with fail
          go_quiet (fail)
          obtain ⟨wq, hwq⟩ : ∃ wq, wq = wr.drewN nq := ⟨_, rfl⟩
          have HO3 : Hid (wq.ownsRow w.heap.size 48 1 (.slice (some ⟨w.heap.size, 0, none⟩) n n) n (u32s o')) := by rw [hwq]; exact HO'
          have hb3 : Below w.heap.size w wq := by rw [hwq]; exact ⟨hbel'.os, hbel'.tape, hbel'.output, hbel'.size, hbel'.block⟩
          have hs3 : w.heap.size < wq.heap.size := by rw [hwq]; exact hsz'
          rw [← hwq]
          obtain ⟨v, hv⟩ : ∃ v : Nat, v = x * y + q + c := ⟨_, rfl⟩
          rw [Hvi.out, ← hv]
          have hvlt : v < 18446744073709551616 := by rw [hv]; exact Hover.out
          have Hvlt := Lib.hid hvlt
          have Hv := Lib.hid hv
          clear hwq HO' hbel' hsz' g1 g2 g3 Hvi hvlt hv Hover b3 b4 b5 b6
          have g3 : wq.cell? ⟨w.heap.size, i + k, none⟩ = some (.int .u32 (q : Int)) := by
            rw [World.ownsRow.cellAt HO3.out (i + k) (by omega), u32s_get _ _ (by have := HF'.out.1; omega), Hq.out]
          have g4 : wq.frozen? ⟨w.heap.size, i + k, none⟩ = false := World.ownsRow.frozenAt HO3.out (i + k)
          have hv0 : (0 : Int) ≤ (v : Int) := by omega
          have hst := World.ownsRow.stored HO3.out (i + k) (.int .u32 ((v : Int) % 4294967296))
          have Hst : Hid ((wq.setCell ⟨w.heap.size, i + k, none⟩ (.int .u32 ((v : Int) % 4294967296))).ownsRow w.heap.size 48 1 (.slice (some ⟨w.heap.size, 0, none⟩) n n) n (u32s (o'.set (i + k) (v % 4294967296)))) := by
            rw [← u32s_set, show ((v % 4294967296 : Nat) : Int) = (v : Int) % 4294967296 by omega]; exact Lib.hid hst.1
          have Hbs : Hid (Below w.heap.size w (wq.setCell ⟨w.heap.size, i + k, none⟩ (.int .u32 ((v : Int) % 4294967296)))) := Lib.hid (hb3.setCell (p := ⟨w.heap.size, i + k, none⟩) (Nat.le_refl _) _)
          have HF3 : Hid ((o'.set (i + k) (v % 4294967296)).length = n ∧ Small (o'.set (i + k) (v % 4294967296)) ∧
              Sh.val (o'.set (i + k) (v % 4294967296)) + v / 4294967296 * 2 ^ (32 * (i + (k + 1))) = Sh.val (la.take i) * Sh.val lb + la[i] * Sh.val (lb.take (k + 1)) * 2 ^ (32 * i) ∧ ∀ (j : Nat) (h : j < (o'.set (i + k) (v % 4294967296)).length), i + lb.length ≤ j → (o'.set (i + k) (v % 4294967296))[j] = 0) := by
            obtain ⟨f1, f2, f3, f4⟩ := HF'.out
            refine Lib.hid ⟨by rw [List.length_set]; exact f1, ?_, ?_, ?_⟩
            · intro z hz
              rcases List.mem_or_eq_of_mem_set hz with h | h
              · exact f2 z h
              · omega
            · have hj : i + k < o'.length := by omega
              have st := Sh.mul_step o' 0 x y c _ _ (i + k) hj f3 v (by rw [Hv.out, Hq.out])
              rw [show i + (k + 1) = i + k + 1 by omega, st, Sh.val_take lb k hlk, Hx.out, Hy.out]
              have e : x * y * 2 ^ (32 * (i + k)) = x * (y * 2 ^ (32 * k)) * 2 ^ (32 * i) := by
                rw [Nat.mul_add, Nat.pow_add]
                generalize 2 ^ (32 * i) = z1
                generalize 2 ^ (32 * k) = z2
                rw [Nat.mul_assoc, Nat.mul_assoc, Nat.mul_assoc, Nat.mul_comm z1 z2]
              rw [e, Nat.mul_add, Nat.add_mul]
            · intro j h hj
              rw [List.getElem_set_ne (by omega)]
              exact f4 j (by simpa using h) hj
          have hcn : v / 4294967296 < 4294967296 := by have := Hvlt.out; omega
          clear hst hb3
          go_wp2
          go_roundw
          case rel =>
            refine ⟨k + 1, v / 4294967296, o'.set (i + k) (v % 4294967296), by omega, by go_num, ?_, hcn, Hst, HF3, Hbs.out, ?_⟩
            · first | rfl | (congr 1; omega)
            · simp [World.setCell]; exact hs3
          case measure => simp [intOf]; omega
        · have hk : k = lb.length := by omega
          subst hk
          have hik : i + lb.length < n := by have := HN.out; omega
          have hj : i + lb.length < o'.length := by have := HF'.out.1; omega
          have hq0 : o'[i + lb.length] = 0 := HF'.out.2.2.2 _ hj (Nat.le_refl _)
          have g3 : wr.cell? ⟨w.heap.size, i + lb.length, none⟩ = some (.int .u32 (0 : Int)) := by
            rw [World.ownsRow.cellAt HO'.out (i + lb.length) (by omega), u32s_get _ _ hj, hq0]; rfl
          have g4 : wr.frozen? ⟨w.heap.size, i + lb.length, none⟩ = false := World.ownsRow.frozenAt HO'.out (i + lb.length)
          have b1 : (0 : Int) ≤ (i : Int) + (lb.length : Int) := by omega
          have b2 : (i : Int) + (lb.length : Int) < (n : Int) := by omega
          have e2 : ((i : Int) + (lb.length : Int)).toNat = i + lb.length := by omega
          have hst := World.ownsRow.stored HO'.out (i + lb.length) (.int .u32 (c : Int))
          have Hst : Hid ((wr.setCell ⟨w.heap.size, i + lb.length, none⟩ (.int .u32 (c : Int))).ownsRow w.heap.size 48 1 (.slice (some ⟨w.heap.size, 0, none⟩) n n) n (u32s (o'.set (i + lb.length) c))) := by
            rw [← u32s_set]; exact Lib.hid hst.1
          have Hbs : Hid (Below w.heap.size w (wr.setCell ⟨w.heap.size, i + lb.length, none⟩ (.int .u32 (c : Int)))) := Lib.hid (hbel'.setCell (p := ⟨w.heap.size, i + lb.length, none⟩) (Nat.le_refl _) _)
          have HF3 : Hid ((o'.set (i + lb.length) c).length = n ∧ Small (o'.set (i + lb.length) c) ∧ Sh.val (o'.set (i + lb.length) c) = Sh.val (la.take (i + 1)) * Sh.val lb ∧
              ∀ (j : Nat) (h : j < (o'.set (i + lb.length) c).length), i + 1 + lb.length ≤ j → (o'.set (i + lb.length) c)[j] = 0) := by
            obtain ⟨f1, f2, f3, f4⟩ := HF'.out
            refine Lib.hid ⟨by rw [List.length_set]; exact f1, ?_, ?_, ?_⟩
            · intro z hz
              rcases List.mem_or_eq_of_mem_set hz with h | h
              · exact f2 z h
              · omega
            · have st := Sh.val_set o' (i + lb.length) c hj
              rw [hq0, Nat.zero_mul, Nat.add_zero] at st
              rw [st, f3, Sh.val_take la i hlt, List.take_length, Nat.add_mul]
              rw [Nat.mul_assoc la[i], Nat.mul_assoc la[i], Nat.mul_comm (2 ^ (32 * i)) (Sh.val lb)]
            · intro j h hj'
              rw [List.getElem_set_ne (by omega)]
              exact f4 j (by simpa using h) (by omega)
          clear hst HO' HF' hq0
          go_wp2
          go_roundw
          case rel =>
            refine ⟨i + 1, o'.set (i + lb.length) c, by omega, by go_num, ?_, HF3, ?_, ?_⟩
            · first | exact Hst | (have e : (c : Int) % 4294967296 = (c : Int) := by omega
                                   rw [e]; exact Hst)
            · first | exact Hbs.out | (have e : (c : Int) % 4294967296 = (c : Int) := by omega
                                       rw [e]; exact Hbs.out)
            · simp [World.setCell]; exact hsz'
          case measure => simp [intOf]; omega
    · go_wp2
      go_ret
      obtain ⟨f1, f2, f3, f4⟩ := HF.out
      have h1 := HO.out
      have h2 := HN.out
      rw [List.take_of_length_le (by omega)] at f3
      refine ⟨o, ?_, ?_, by omega, f2, f3, hbel, hsz⟩
      · rw [f1]; rfl
      · rw [← f1] at h1; exact h1
end Go.Proofs.YtkomfgoloepekaaDoor.Rf
