/- slices.Grow of nothing and slices.Concat, at api.Line. -/
import Derived.Test.YtlnnhgmkibjgmaaDoorX17
import Derived.Lib.AppendZerosOnto
import Derived.LoopTactic
set_option linter.unusedVariables false
set_option linter.unusedSimpArgs false
namespace Go.Proofs.YtlnnhgmkibjgmaaDoor
open Go Go.RowKit Oj Al

/-- The cells of a list of things, one behind the other. -/
def flatL {α : Type} (ce : α → List Value) (d : α) (L : List α) : List Value := flat (fun j => ce (L.getD j d)) L.length
theorem flat_two {α : Type} (ce : α → List Value) (d : α) (A B : List α) : ∀ n, n ≤ B.length → flat (fun j => ce ((A ++ B).getD j d)) (A.length + n) = flatL ce d A ++ flat (fun j => ce (B.getD j d)) n
  | 0, _ => by
    rw [Nat.add_zero, flat, List.append_nil]
    exact flat_congr _ (fun j hj => by rw [List.getD_eq_getElem?_getD, List.getD_eq_getElem?_getD, List.getElem?_append_left hj])
  | n + 1, h => by
    rw [← Nat.add_assoc, flat, flat_two ce d A B n (by omega), flat, List.append_assoc]
    congr 2
    rw [List.getD_eq_getElem?_getD, List.getElem?_append_right (by omega), Nat.add_sub_cancel_left, List.getD_eq_getElem?_getD]
theorem flatL_append {α : Type} (ce : α → List Value) (d : α) (A B : List α) : flatL ce d (A ++ B) = flatL ce d A ++ flatL ce d B := by
  unfold flatL
  rw [List.length_append]
  exact flat_two ce d A B B.length (Nat.le_refl _)
theorem take_flat {α : Type} (LL : List (List α)) (k : Nat) (h : k < LL.length) : (LL.take (k + 1)).flatten = (LL.take k).flatten ++ LL.getD k [] := by
  rw [List.take_succ_eq_append_getElem h, List.flatten_append, List.getD_eq_getElem?_getD, List.getElem?_eq_getElem h]
  simp
theorem take_len {α : Type} (LL : List (List α)) (k : Nat) : (LL.take k).flatten.length ≤ LL.flatten.length := by
  conv => rhs; rw [← List.take_append_drop k LL, List.flatten_append, List.length_append]
  omega
/-- A list of slices: what the k-th reads as. -/
def SlsAt {α : Type} (z : Nat) (ce : α → List Value) (d : α) (w : World) (v : Value) (LL : List (List α)) : Prop :=
  ∃ S : Nat → Value, SlC w v LL.length 1 (fun j => [S j]) ∧ ∀ j, j < LL.length → SlC w (S j) (LL.getD j []).length z fun i => ce ((LL.getD j []).getD i d)
def zcL : Array Value := #[.string ⟨#[]⟩, .int .u8 0, .int .u8 0, .int .u8 0, .int .u8 0, .int .u32 0, .string ⟨#[]⟩, .string ⟨#[]⟩]
theorem infoLG : (Tryd.prog.info? 42).map (fun i => (i.zero, i.size, i.bytes)) = some (some (.agg zcL), 8, 56) := by kernel_rfl
set_option maxHeartbeats 4000000 in
set_option maxRecDepth 100000 in
theorem growL_any (n : Nat) (hn : n * 56 ≤ 140737488355328) (B : Nat) (w : World) (hB : B ≤ w.heap.size) :
    Calls Tryd.prog 62 #[.slice none 0 0, .int .i64 n] w fun e w' => ∃ v, e = .returned v ∧ w'.ownsRow B 42 8 v 0 [] ∧ Below w.heap.size w w' ∧ ∃ a c, v = .slice a 0 c := by
  by_cases h0 : n = 0
  · subst h0
    have hp : ∃ v, Value.slice none 0 0 = v ∧ w.ownsRow B 42 8 v 0 [] ∧ Below w.heap.size w w ∧ ∃ a c, v = .slice a 0 c := ⟨_, rfl, World.ownsRow_nil w B 42 8, Below.refl _ _, none, 0, rfl⟩
    have HP := Lib.hid hp
    clear hp hn
    go_enter Tryd.func62, Tryd.ntmps62
    go_wp2
    go_ret
    obtain ⟨v, h1, h2⟩ := HP.out
    exact ⟨v, by rw [← h1]; rfl, h2⟩
  · obtain ⟨i0, hi, hz0, hz1, hz2⟩ := info_parts infoLG
    have hcap := grownCap_ge w (0 + n) 0 42
    have hcm := grownCap_le_maxLen w (0 + n) 0 42 (by unfold maxLen; omega)
    have hrz : ∀ ty, (Builtin.append_ #[23, 3] ty #[.slice none 0 0, .int .i64 (n : Int)]).run Tryd.prog w =
        .ok (.slice (some ⟨w.heap.size, 0, none⟩) (0 + n) (grownCap w (0 + n) 0 42)) (w.drew.alloc (.cells (([] : List Value).toArray ++ Builtin.zeroCells (Value.agg zcL).cells n ++ Builtin.zeroCells (Value.agg zcL).cells (grownCap w (0 + n) 0 42 - (0 + n))) 42)) := fun ty =>
      Lib.run_append_grow_zeros w 23 3 ty 42 i0 (.agg zcL) .i64 .i64 Tryd.underlying23 Tryd.underlying3 hi hz0 none 0 0 [] (run_firstCells_none w.drew i0.size 0 0 0) n (by omega) (by rw [hz1]; decide) (by omega) (by omega)
        (by rw [hz2]; omega) (by rw [hz2]; exact growslice_fits (by omega) (by omega))
    rw [Nat.zero_add] at hrz hcap hcm
    obtain ⟨G, hG⟩ : ∃ G, G = grownCap w n 0 42 := ⟨_, rfl⟩
    rw [← hG] at hrz hcap hcm
    obtain ⟨CS, hCS⟩ : ∃ CS, CS = ([] : List Value).toArray ++ Builtin.zeroCells (Value.agg zcL).cells n ++ Builtin.zeroCells (Value.agg zcL).cells (G - n) := ⟨_, rfl⟩
    have hcs : CS.size = G * 8 := by
      rw [hCS, Array.size_append, Array.size_append, size_zeroCells, size_zeroCells]
      have : (Value.agg zcL).cells.size = 8 := rfl
      rw [this]
      simp only [List.size_toArray, List.length_nil]
      omega
    rw [← hCS] at hrz
    obtain ⟨w2, hw2⟩ : ∃ w2, w2 = w.drew.alloc (.cells CS 42) := ⟨_, rfl⟩
    rw [← hw2] at hrz
    have hr : ∃ v, Value.slice (some ⟨w.heap.size, 0, none⟩) 0 G = v ∧ w2.ownsRow B 42 8 v 0 [] ∧ Below w.heap.size w w2 ∧ ∃ a c, v = .slice a 0 c := by
      refine ⟨_, rfl, ⟨by simp, .inr ⟨w.heap.size, G, CS, rfl, hB, ?_, Nat.zero_le _, hcm, hcs, by simp⟩⟩, ?_, _, _, rfl⟩
      · rw [hw2]
        exact heap_alloc_new w.drew _
      · rw [hw2]
        exact below_call (below_drewN w 1) (below_new1 w.drew _)
    have HR := Lib.hid hr
    have hG63 : (G : Int) ≤ 9223372036854775807 := by unfold maxLen at hcm; omega
    have hn1 : (0 : Int) < (n : Int) := by omega
    have hn2 : (n : Int) ≤ 140737488355328 := by omega
    have hng : n ≤ G := hcap
    clear hr hw2 hcs hCS hG hcap hcm hi hz0 hz1 hz2 hn h0
    have HZ := Lib.hid hrz
    clear hrz
    go_enter Tryd.func62, Tryd.ntmps62
    go_wp2_with (at_builtin; refine Lib.wpList_append_run _ rfl _ _ _ _ rfl _ _ rfl rfl _ _ (HZ.out _) ?_)
    all_goals (go_ret; obtain ⟨v, h1, h2⟩ := HR.out; exact ⟨v, by rw [← h1]; rfl, h2⟩)
theorem L_one (x : Ln) : ∀ u ∈ lnCells x, u.oneCell' = true := by
  intro u hu
  simp only [lnCells, List.mem_cons, List.not_mem_nil, or_false] at hu
  rcases hu with rfl | rfl | rfl | rfl | rfl | rfl | rfl | rfl <;> rfl
/-- What Concat leaves: a row of its own. -/
def CatL (w : World) (L : List Ln) (e : Ending) (w' : World) : Prop := ∃ v, e = .returned v ∧ w'.ownsRow w.heap.size 42 8 v L.length (flatL lnCells Ln.nought L) ∧ Below w.heap.size w w'
set_option maxHeartbeats 4000000 in
set_option maxRecDepth 100000 in
theorem concatL_any (LL : List (List Ln)) (v : Value) (w : World) (hA : SlsAt 8 lnCells Ln.nought w v LL) (hb : LL.flatten.length * 56 ≤ 140737488355328) (hl : LL.length ≤ 1048576) :
    Calls Tryd.prog 46 #[v] w (CatL w LL.flatten) := by
  obtain ⟨S, ⟨a, c, rfl, h2⟩, h3⟩ := hA
  obtain ⟨i0, hi, hz0, hz1, hz2⟩ := info_parts infoLG
  have HI := Lib.hid (And.intro hi (And.intro hz0 (And.intro hz1 hz2)))
  obtain ⟨n, hn⟩ : ∃ n, n = LL.length := ⟨_, rfl⟩
  obtain ⟨tot, ht⟩ : ∃ t, t = LL.flatten.length := ⟨_, rfl⟩
  have HG := Lib.hid (fun (W : World) (hW : Below w.heap.size w W) => growL_any tot (by rw [ht]; exact hb) w.heap.size W hW.size)
  have HT := Lib.hid (fun k => by have := take_len LL k; rw [← ht] at this; exact this)
  have HS := Lib.hid (fun k (h : k < n) => take_flat LL k (by omega))
  have HALL : Hid ((LL.take n).flatten.length = tot) := Lib.hid (by rw [hn, List.take_length, ht])
  have HFIN : Hid (CatL w LL.flatten = CatL w (LL.take n).flatten) := Lib.hid (by rw [hn, List.take_length])
  have HSL := Lib.hid (fun k (hk : k < n) (W : World) (hW : Below w.heap.size w W) => SlC.below (h3 k (by omega)) hW (Nat.le_refl _))
  have hni : (n : Int) ≤ 1048576 := by omega
  have hti : (tot : Int) * 56 ≤ 140737488355328 := by omega
  have HTB := Lib.hid (show tot * 56 ≤ 140737488355328 by rw [ht]; exact hb)
  rw [← hn] at h2 ⊢
  have H2 := Lib.hid h2
  have HB0 := Lib.hid (Below.refl w.heap.size w)
  obtain ⟨FL, hFL⟩ : ∃ FL, FL = LL.flatten := ⟨_, rfl⟩
  have HPO : Hid (∀ v w', w'.ownsRow w.heap.size 42 8 v (LL.take n).flatten.length (flatL lnCells Ln.nought (LL.take n).flatten) → Below w.heap.size w w' → CatL w FL (.returned v) w') := Lib.hid (fun v w' q1 q2 => by rw [hFL, HFIN.out]; exact ⟨v, rfl, q1, q2⟩)
  rw [← hFL]
  clear hFL HFIN hn ht hb hl h2 h3 hi hz0 hz1 hz2
  go_enter Tryd.func46, Tryd.ntmps46
  go_wp2_with fail
  go_loop [3, 11] (fun sz i => ∃ k : Nat, (k : Int) ≤ n ∧ i = .int .i64 k ∧ ∃ m : Nat, (m : Int) ≤ tot ∧ sz = .int .i64 m ∧ Hid ((LL.take k).flatten.length = m)) (fun _ i => n - (intOf i).toNat)
  case atStart => exact ⟨0, by omega, rfl, 0, by omega, rfl, Lib.hid (by simp)⟩
  case round =>
    obtain ⟨k, hk, rfl, m, hm, rfl, HK⟩ := hrel
    by_cases hlt : k < n
    · obtain ⟨b, o, rfl, hbl, hcl⟩ := H2.out (by omega)
      have c0 := hcl k hlt 0 (S k) rfl
      rw [Nat.mul_one, Nat.add_zero] at c0
      have hLn := HSL.out k hlt w HB0.out
      obtain ⟨a2, c2, hSk, _⟩ := hLn
      rw [hSk] at c0
      obtain ⟨m2, hm2⟩ : ∃ m2, m2 = (LL.getD k []).length := ⟨_, rfl⟩
      rw [← hm2] at c0
      have hsum : m + m2 = (LL.take (k + 1)).flatten.length := by rw [HS.out k hlt, List.length_append, HK.out, hm2]
      have hle : (m : Int) + (m2 : Int) ≤ tot := by have := HT.out (k + 1); omega
      have HK2 : Hid ((LL.take (k + 1)).flatten.length = m + m2) := Lib.hid hsum.symm
      have hwr : wrap64 ((m : Int) + (m2 : Int)) = (m : Int) + (m2 : Int) := by unfold wrap64; omega
      clear hsum hm2 hSk hcl HK
      have hd : decide (k < n) = true := decide_eq_true hlt
      go_wp2_with fail
      go_round
      case rel => exact ⟨k + 1, by omega, by go_num, m + m2, by omega, by first | rfl | (congr 1; omega) | go_num, HK2⟩
      case measure => simp [intOf]; omega
    · obtain rfl : k = n := by omega
      have hmt : m = tot := by rw [← HK.out]; exact HALL.out
      subst hmt
      clear hlt hk HK
      go_wp2_with fail
      refine (HG.out _ HB0.out).mono ?_; rintro e w1 ⟨v1, rfl, r1, q1, a1, c1, rfl⟩
      have B1 := Lib.hid q1
      have R1 := Lib.hid r1
      clear r1 q1 HG
      go_wp2_with fail
      go_loopw [6, 27] (fun nv i wr => ∃ j : Nat, (j : Int) ≤ k ∧ i = .int .i64 j ∧ Hid (wr.ownsRow w.heap.size 42 8 nv (LL.take j).flatten.length (flatL lnCells Ln.nought (LL.take j).flatten)) ∧ Hid (Below w.heap.size w wr)) (fun _ i _ => k - (intOf i).toNat)
      case atStart => exact ⟨0, by omega, rfl, R1, B1⟩
      case round =>
        obtain ⟨j, hj, rfl, HR, HB⟩ := hrel
        by_cases hlt : j < k
        · obtain ⟨b, o, rfl, hbl, hcl⟩ := H2.out (by omega)
          have c0 := (HB.out.cell (p := ⟨b, o + j * 1 + 0, none⟩) hbl).trans (hcl j hlt 0 (S j) rfl)
          rw [Nat.mul_one, Nat.add_zero] at c0
          obtain ⟨a2, c2, hSj, hS2⟩ := HSL.out j hlt wr HB.out
          rw [hSj] at c0
          have hbl2 := Nat.lt_of_lt_of_le hbl HB.out.size
          obtain ⟨XS, hXS⟩ : ∃ XS, XS = LL.getD j [] := ⟨_, rfl⟩
          rw [← hXS] at c0 hS2
          have hcat := HS.out j hlt
          rw [← hXS] at hcat
          have hbb : (LL.take j).flatten.length + XS.length ≤ m := by have := HT.out (j + 1); rw [hcat, List.length_append] at this; exact this
          have HS2 := Lib.hid hS2
          obtain ⟨CU, hCU⟩ : ∃ t, t = (LL.take j).flatten := ⟨_, rfl⟩
          rw [← hCU] at HR hcat hbb
          have HC := Lib.hid hcat
          have HBB := Lib.hid hbb
          have hd : decide (j < k) = true := decide_eq_true hlt
          obtain ⟨avn, cvn, rfl⟩ := row_slice HR.out
          clear hcl hSj hS2 hXS hcat hbb hCU
          cases a2 with
          | none =>
            have hx0 : XS = [] := by
              rcases Nat.eq_zero_or_pos XS.length with h | h
              · exact List.length_eq_zero_iff.1 h
              · obtain ⟨_, _, h3, _⟩ := HS2.out h; cases h3
            subst hx0
            have HR2 : Hid (wr.ownsRow w.heap.size 42 8 (.slice avn CU.length cvn) (LL.take (j + 1)).flatten.length (flatL lnCells Ln.nought (LL.take (j + 1)).flatten)) := Lib.hid (by rw [HC.out, List.append_nil]; exact HR.out)
            have hrun : ∀ ty, (Builtin.append_ #[23, 23] ty #[.slice avn CU.length cvn, .slice none 0 c2]).run Tryd.prog wr = .ok (.slice avn CU.length cvn) wr := fun ty => by
              rcases HR.out.2 with ⟨hv, _⟩ | ⟨g, cap, cur, hv, _, _, hnc, _⟩
              · rw [hv]
                simp [Builtin.append_, run_underlying Tryd.underlying23, sizeOf, typeInfo, HI.out.1, Builtin.lenOf, Builtin.firstCells]
              · injection hv with e1 e2 e3
                subst e1 e3
                simp [Builtin.append_, run_underlying Tryd.underlying23, sizeOf, typeInfo, HI.out.1, Builtin.lenOf, Builtin.firstCells, hnc, storeCells]
            have HRUN := Lib.hid hrun
            have hx0 : (([] : List Ln).length : Nat) = 0 := rfl
            rw [hx0] at c0
            clear hrun hx0
            go_wp2_with (at_builtin; refine Lib.wpList_append_run _ rfl _ _ _ _ rfl _ _ rfl rfl _ _ (HRUN.out _) ?_)
            go_wp2_with fail
            go_roundw
            case rel => exact ⟨j + 1, by omega, by go_num, HR2, HB⟩
            case measure => simp [intOf]; omega
          | some ad =>
            have HNEW : Hid (∀ m u, (flatL lnCells Ln.nought XS)[m]? = some u → wr.cell? (ad.add m) = some u) := Lib.hid (by
              intro m u hm
              obtain ⟨j', i', hj', rfl, hi', hu⟩ := flat_at XS.length (z := 8) (fun _ _ => rfl) m u hm
              obtain ⟨b', o', h3, h4, h5⟩ := HS2.out (by omega)
              cases h3
              rw [Addr.add_mid, ← Nat.add_assoc]
              exact h5 j' hj' i' u hu)
            have HBM : Hid (CU.length + XS.length ≤ maxLen) := Lib.hid (by have := HBB.out; have := HTB.out; unfold maxLen; omega)
            have HBY : Hid ((CU.length + XS.length) * 56 ≤ 140737488355328) := Lib.hid (by have := HBB.out; have := HTB.out; omega)
            go_wp2_with (at_builtin; refine wpList_append_own _ rfl _ _ 23 rfl w.heap.size 42 i0 _ 8 56 Tryd.underlying23 HI.out.1 HI.out.2.1 HI.out.2.2.1 HI.out.2.2.2 rfl (by decide) _ CU.length (flatL lnCells Ln.nought CU) rfl HR.out ad XS.length c2 (flatL lnCells Ln.nought XS) rfl (flat_length _ (fun _ _ => rfl)) HNEW.out (flat_all _ (fun _ _ => L_one _)) HBM.out HBY.out HB.out.size ?_)
            intro v2 w2 h6 h7 _
            have HB3 := Lib.hid (HB.out.grown h7 HB.out.size (fun q hq => (World.ownsRow.lt HR.out q hq).1))
            have HR3 : Hid (w2.ownsRow w.heap.size 42 8 v2 (LL.take (j + 1)).flatten.length (flatL lnCells Ln.nought (LL.take (j + 1)).flatten)) := Lib.hid (by rw [HC.out, List.length_append, flatL_append]; exact h6)
            clear h6 h7 HR HB HNEW HBM HBY
            go_wp2_with fail
            go_roundw
            case rel => exact ⟨j + 1, by omega, by go_num, HR3, HB3⟩
            case measure => simp [intOf]; omega
        · obtain rfl : j = k := by omega
          have HP := Lib.hid (HPO.out _ wr HR.out HB.out)
          clear hlt hj HR HB
          go_wp2_with fail
          go_ret
          exact HP.out
end Go.Proofs.YtlnnhgmkibjgmaaDoor
