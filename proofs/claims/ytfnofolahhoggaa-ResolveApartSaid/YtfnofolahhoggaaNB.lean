/- What a name is made of: the program's inName, isName, the document's Name. -/
import Derived.Test.YtfnofolahhoggaaOA
import Derived.Test.YtfnofolahhoggaaOB
import Derived.Deep.QuietTactic
import Derived.BigQuiet
import Derived.Lib.ConvBytes
set_option linter.unusedVariables false
namespace Go.Proofs.Ytfnofolahhoggaa
open Go Go.RowKit Oj

theorem ret_bool {a b : Bool} (h : a = b) : Ending.returned (.bool a) = .returned (.bool b) := by rw [h]
theorem quiet_left {P : Program} {f : FuncId} {args : Array Value} {w : World} {n : Nat} {v : Value}
    (h : Calls P f args (w.drewN n) fun e w' => e = .returned v ∧ w.drewN n = w') : Calls P f args (w.drewN n) fun e w'' => e = .returned v ∧ ∃ m, w'' = w.drewN m :=
  Calls.quiet_of_same (h.mono fun _ _ ⟨a, b⟩ => ⟨a, b.symm⟩)
theorem below_call {w wx w2 : World} (hb : Below w.heap.size w wx) (q : Below wx.heap.size wx w2) : Below w.heap.size w w2 := hb.trans (q.mono hb.size)
theorem below_box {w wr : World} (hb : Below w.heap.size w wr) (o : Obj) : Below w.heap.size w (wr.alloc o) := hb.alloc hb.size _
theorem below_boxN {w wr : World} (hb : Below w.heap.size w wr) (o : Obj) (n : Nat) : Below w.heap.size w ((wr.alloc o).drewN n) := below_call (below_box hb o) (below_drewN _ n)
theorem below_new1 (w : World) (o : Obj) : Below w.heap.size w (w.alloc o) := (Below.refl _ _).alloc (Nat.le_refl _) _
theorem Blk.boxN {w : World} {g : Nat} {t : TypeId} {cs : List Value} (h : Blk w g t cs) (o : Obj) (n : Nat) : Blk ((w.alloc o).drewN n) g t cs := h.alloc o
/-- A block from before stands behind a call. -/
theorem Blk.call {w w2 : World} {g : Nat} {t : TypeId} {cs : List Value} (h : Blk w g t cs) (q : Below w.heap.size w w2) : Blk w2 g t cs := h.below q h.lt
theorem byte_at (s : ByteArray) (k : Nat) : ((s.data.toList.getD k 0).toNat : Int) < 256 := by
  have := (s.data.toList.getD k 0).toNat_lt
  omega
set_option maxHeartbeats 2000000 in
set_option maxRecDepth 100000 in
theorem inname_any (c : Int) (h0 : 0 ≤ c) (h1 : c < 256) (w : World) : Calls Try.prog 50 #[.int .u8 c] w fun e w' => e = .returned (.bool (nameI c)) ∧ w = w' := by
  go_enter Try.func50, Try.ntmps50
  go_wp2
  all_goals (go_ret; refine ⟨ret_bool ?_, rfl⟩; unfold nameI; rw [Bool.eq_iff_iff]; simp only [Bool.or_eq_true, decide_eq_true_eq, beq_iff_eq, true_iff]; first | omega | simp)

set_option maxHeartbeats 2000000 in
set_option maxRecDepth 100000 in
theorem isname_any (s : ByteArray) (hs : s.size ≤ 140737488355328) (w : World) : Calls Try.prog 46 #[.string s] w fun e w' => e = .returned (.bool (nameOk (by' s))) ∧ Below w.heap.size w w' := by
  by_cases h1 : 1 ≤ s.size ∧ s.size ≤ 32
  · obtain ⟨n, hn⟩ : ∃ n, n = s.size := ⟨_, rfl⟩
    have HC := Lib.hid (Lib.run_convert_string_bytes (P := Try.prog) w 9 86 5 s Try.underlying9 Try.underlying86 Try.underlying5)
    have hb0 : Below w.heap.size w (Lib.bytesWorld w 5 s) := ⟨rfl, rfl, rfl, by rw [Lib.bytesWorld_size]; omega, fun i hi => Lib.bytesWorld_at_old w 5 s i hi⟩
    have HL := Lib.hid (fun j => Lib.bytesWorld_cell w 5 s j)
    obtain ⟨cap, hcap⟩ : ∃ cap, cap = grownCap w s.size 0 5 := ⟨_, rfl⟩
    obtain ⟨wb, hwb⟩ : ∃ wb, wb = Lib.bytesWorld w 5 s := ⟨_, rfl⟩
    obtain ⟨g, hg⟩ : ∃ g, g = w.heap.size := ⟨_, rfl⟩
    rw [← hwb] at HC HL hb0
    rw [← hcap, ← hg, ← hn] at HC
    rw [← hg, ← hn] at HL
    have HB := Lib.hid hb0
    have hi1 : (1 : Int) ≤ (s.size : Int) := by omega
    have hi2 : (s.size : Int) ≤ 32 := by omega
    have hn32 : (n : Int) ≤ 32 := by omega
    have HN : Hid ((by' s).length = n ∧ 1 ≤ n ∧ n ≤ 32) := Lib.hid ⟨by rw [by_length, hn], by omega⟩
    clear h1 hs hn hcap hwb hg hb0
    go_enter Try.func46, Try.ntmps46
    have hC := HC.out
    go_wp2_with fail
    clear hC
    go_loop [16] (fun i => ∃ k : Nat, (k : Int) ≤ n ∧ i = .int .i64 k ∧ Hid (∀ j, j < k → nameI (((by' s).getD j 0).toNat : Int) = true)) (fun i => n - (intOf i).toNat)
    case atStart => exact ⟨0, by omega, rfl, Lib.hid fun j hj => absurd hj (by omega)⟩
    case round =>
      obtain ⟨k, hk, rfl, HK⟩ := hrel
      by_cases hlt : k < n
      · obtain ⟨c, hc⟩ : ∃ c : Int, c = ((s.data.toList.getD k 0).toNat : Int) := ⟨_, rfl⟩
        have hcell := HL.out k hlt
        rw [← hc] at hcell
        have hc0 : 0 ≤ c := by omega
        have hc1 : c < 256 := by rw [hc]; exact byte_at s k
        have HCC : Hid (c = (((by' s).getD k 0).toNat : Int)) := Lib.hid hc
        have hd : decide (k < n) = true := decide_eq_true hlt
        clear hc
        by_cases hb : nameI c = true
        · have HI := Lib.hid (fun W => inname_any c hc0 hc1 W)
          rw [hb] at HI
          have HK2 : Hid (∀ j, j < k + 1 → nameI (((by' s).getD j 0).toNat : Int) = true) := Lib.hid fun j hj => by
            by_cases he : j = k
            · subst he; rw [← HCC.out]; exact hb
            · exact HK.out j (by omega)
          clear hb HK
          go_wp2_with (refine (HI.out _).mono ?_; rintro e w2 ⟨rfl, rfl⟩)
          go_round
          case rel => exact ⟨k + 1, by omega, by go_num, HK2⟩
          case measure => simp [intOf]; omega
        · have hb := Bool.eq_false_iff.2 hb
          have HI := Lib.hid (fun W => inname_any c hc0 hc1 W)
          rw [hb] at HI
          have HR : Hid (nameOk (by' s) = false) := Lib.hid (by
            unfold nameOk
            rw [allN_false (k := k) (by rw [HN.out.1]; exact hlt) (by rw [← HCC.out]; exact hb), Bool.and_false])
          clear hb HK
          go_wp2_with (refine (HI.out _).mono ?_; rintro e w2 ⟨rfl, rfl⟩)
          go_ret
          exact ⟨ret_bool HR.out.symm, HB.out⟩
      · have hd : decide (k < n) = false := decide_eq_false hlt
        have HR : Hid (nameOk (by' s) = true) := Lib.hid (by
          unfold nameOk
          rw [allN_true (fun j hj => HK.out j (by rw [HN.out.1] at hj; omega)), Bool.and_true, decide_eq_true (by rw [HN.out.1]; exact HN.out.2)])
        clear hlt HK
        go_wp2
        go_ret
        exact ⟨ret_bool HR.out.symm, HB.out⟩
  · have HR : Hid (nameOk (by' s) = false) := Lib.hid (by
      unfold nameOk
      rw [decide_eq_false (by rw [by_length]; exact h1), Bool.false_and])
    rcases Nat.lt_or_ge s.size 1 with h2 | h2
    · have h3 : (s.size : Int) < 1 := by omega
      clear h1 h2 hs
      go_enter Try.func46, Try.ntmps46
      go_wp2
      go_ret
      exact ⟨ret_bool HR.out.symm, Below.refl _ _⟩
    · have h3 : (1 : Int) ≤ (s.size : Int) := by omega
      have h4 : (32 : Int) < (s.size : Int) := by omega
      clear h1 h2 hs
      go_enter Try.func46, Try.ntmps46
      go_wp2
      go_ret
      exact ⟨ret_bool HR.out.symm, Below.refl _ _⟩

theorem index_k (s : ByteArray) (k : Nat) (h : k < s.size) (W : World) :
    (Instr.index 9 (.string s) (.int .i64 (k : Int))).run Try.prog W = .ok (.int .u8 ((s.data.toList.getD k 0).toNat : Int)) W := by
  rw [run_index_string W 9 s .i64 _ Try.underlying9, dif_pos (by omega)]
  have e : s.data.toList.getD k 0 = s[k] := by
    rw [List.getD_eq_getElem?_getD, List.getElem?_eq_getElem (by rw [Array.length_toList]; exact h)]
    rfl
  rw [e]
  rfl
set_option maxHeartbeats 4000000 in
set_option maxRecDepth 100000 in
theorem rname_any (s : ByteArray) (hs : s.size ≤ 140737488355328) (w : World) : Calls Try.prog 39 #[.string s] w fun e w' => e = .returned (.bool (nameOk (by' s))) ∧ w = w' := by
  obtain ⟨n, hn⟩ : ∃ n, n = s.size := ⟨_, rfl⟩
  have hni : (n : Int) ≤ 140737488355328 := by omega
  have hsn : (s.size : Int) = (n : Int) := by omega
  have HN : Hid ((by' s).length = n) := Lib.hid (by rw [by_length, hn])
  have HS := Lib.hid hn
  clear hs hn
  go_enter Try.func39, Try.ntmps39
  go_wp2_with fail
  go_loop [3] (fun i => ∃ k : Nat, (k : Int) ≤ n ∧ i = .int .i64 k ∧ Hid (∀ j, j < k → nameI (((by' s).getD j 0).toNat : Int) = true)) (fun i => n - (intOf i).toNat)
  case atStart => exact ⟨0, by omega, rfl, Lib.hid fun j hj => absurd hj (by omega)⟩
  case round =>
    obtain ⟨k, hk, rfl, HK⟩ := hrel
    by_cases hlt : k < n
    · obtain ⟨c, hc⟩ : ∃ c : Int, c = ((s.data.toList.getD k 0).toNat : Int) := ⟨_, rfl⟩
      have hd : decide (k < n) = true := decide_eq_true hlt
      have hx : k < s.size := by rw [← HS.out]; exact hlt
      have hix := index_k s k hx w
      rw [← hc] at hix
      have hc0 : 0 ≤ c := by omega
      have hc1 : c < 256 := by rw [hc]; exact byte_at s k
      have HCC : Hid (c = (((by' s).getD k 0).toNat : Int)) := Lib.hid hc
      clear hc hx
      by_cases hb : nameI c = true
      · have HK2 : Hid (∀ j, j < k + 1 → nameI (((by' s).getD j 0).toNat : Int) = true) := Lib.hid fun j hj => by
          by_cases he : j = k
          · subst he; rw [← HCC.out]; exact hb
          · exact HK.out j (by omega)
        have HBB : Hid ((97 ≤ c ∧ c ≤ 122) ∨ (48 ≤ c ∧ c ≤ 57) ∨ c = 46 ∨ c = 95) := Lib.hid (by unfold nameI at hb; exact of_decide_eq_true hb)
        clear hb HK
        go_wp2
        all_goals first
          | (exfalso; have := HBB.out; omega)
          | (exfalso; have := HBB.out; clear HK2 HS HN HCC HBB hix; simp at *; omega)
          | (go_round
             case rel => exact ⟨k + 1, by omega, by go_num, HK2⟩
             case measure => simp [intOf]; omega)
      · have hb := Bool.eq_false_iff.2 hb
        have HR : Hid (nameOk (by' s) = false) := Lib.hid (by
          unfold nameOk
          rw [allN_false (k := k) (by rw [HN.out]; exact hlt) (by rw [← HCC.out]; exact hb), Bool.and_false])
        have HBB : Hid (¬((97 ≤ c ∧ c ≤ 122) ∨ (48 ≤ c ∧ c ≤ 57) ∨ c = 46 ∨ c = 95)) := Lib.hid (by unfold nameI at hb; exact of_decide_eq_false hb)
        clear hb HK
        go_wp2
        all_goals first
          | (exfalso; have := HBB.out; omega)
          | (exfalso; have := HBB.out; clear HR HS HN HCC HBB hix; simp at *; omega)
          | (go_ret; exact ⟨ret_bool HR.out.symm, rfl⟩)
    · have hd : decide (k < n) = false := decide_eq_false hlt
      have HA : Hid (allN (by' s).length (fun k => nameI (((by' s).getD k 0).toNat : Int)) = true) := Lib.hid (allN_true (fun j hj => HK.out j (by rw [HN.out] at hj; omega)))
      clear hlt HK
      by_cases h1 : 1 ≤ n
      · by_cases h2 : n ≤ 32
        · have HR : Hid (nameOk (by' s) = true) := Lib.hid (by unfold nameOk; rw [HA.out, Bool.and_true, decide_eq_true (by rw [HN.out]; exact ⟨h1, h2⟩)])
          go_wp2
          go_ret
          exact ⟨ret_bool ((decide_eq_true (by omega)).trans HR.out.symm), rfl⟩
        · have HR : Hid (nameOk (by' s) = false) := Lib.hid (by unfold nameOk; rw [HA.out, Bool.and_true, decide_eq_false (by rw [HN.out]; omega)])
          go_wp2
          go_ret
          exact ⟨ret_bool ((decide_eq_false (by omega)).trans HR.out.symm), rfl⟩
      · have HR : Hid (nameOk (by' s) = false) := Lib.hid (by unfold nameOk; rw [HA.out, Bool.and_true, decide_eq_false (by rw [HN.out]; omega)])
        go_wp2
        go_ret
        exact ⟨ret_bool HR.out.symm, rfl⟩
end Go.Proofs.Ytfnofolahhoggaa
