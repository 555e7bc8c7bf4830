/- aediculeref02.primes and roots: the first primes, and the roots' first bits. -/
import Derived.Test.YtkomfgoloepekaaDoorRC
set_option linter.unusedVariables false
namespace Go.Proofs.YtkomfgoloepekaaDoor.Rf
open Go.RowKit

namespace Sh
/-- The primes below p, as the function finds them, one by one. -/
def sieve : Nat → List Nat
  | 0 => []
  | p + 1 => if 2 ≤ p ∧ (sieve p).all (fun q => p % q != 0) = true then sieve p ++ [p] else sieve p

set_option maxRecDepth 100000 in
theorem sieve_last : sieve 312 = primes64 := by decide +kernel
set_option maxRecDepth 100000 in
theorem sieve_take' : ∀ p : Fin 313, sieve p.val = primes64.take (sieve p.val).length := by decide +kernel
theorem sieve_take (p : Nat) (h : p ≤ 312) : sieve p = primes64.take (sieve p).length := sieve_take' ⟨p, by omega⟩
theorem sieve_len (p : Nat) (h : p ≤ 312) : (sieve p).length ≤ 64 := by
  have h1 := congrArg List.length (sieve_take p h)
  have h2 : primes64.length = 64 := by decide
  rw [List.length_take] at h1
  omega
theorem primes_small : ∀ q ∈ primes64, 2 ≤ q ∧ q < 4294967296 := by decide +kernel
theorem sieve_small (p : Nat) (h : p ≤ 312) : ∀ q ∈ sieve p, 2 ≤ q ∧ q < 4294967296 := by
  intro q hq
  rw [sieve_take p h] at hq
  exact primes_small q (List.mem_of_mem_take hq)
end Sh

theorem ownU_row {B : Nat} {l : List Nat} {v : Value} {w : World} (h : OwnU B l v w) (h0 : l ≠ []) : ∃ g cap, v = .slice (some ⟨g, 0, none⟩) l.length cap ∧ B ≤ g := by
  unfold OwnU at h
  rcases h.2 with ⟨_, h2⟩ | ⟨g, cap, cur, hv, hB, _⟩
  · exact absurd (by simpa using h2) h0
  · exact ⟨g, cap, hv, hB⟩
theorem ownU_form {B : Nat} {l : List Nat} {v : Value} {w : World} (h : OwnU B l v w) : ∃ a cap, v = .slice a l.length cap := by
  unfold OwnU at h
  rcases h.2 with ⟨hv, h2⟩ | ⟨g, cap, cur, hv, hB, _⟩
  · exact ⟨none, 0, by rw [hv, h2]⟩
  · exact ⟨_, _, hv⟩
theorem ownU_cell {B : Nat} {l : List Nat} {g cap : Nat} {w : World} (h : OwnU B l (.slice (some ⟨g, 0, none⟩) l.length cap) w) (j : Nat) (hj : j < l.length) : w.cell? ⟨g, j, none⟩ = some (.int .u32 (l[j] : Int)) := by
  rw [World.ownsRow.cellAt h j (by omega), u32s_get _ _ hj]
theorem ownU_nil (B : Nat) (w : World) : OwnU B [] (.slice none 0 0) w := World.ownsRow_nil _ _ _ _
theorem ownU_snoc {B : Nat} {l : List Nat} {x : Nat} {v : Value} {w : World} (h : w.ownsRow B 48 1 v (l.length + 1) (u32s l ++ [.int .u32 (x : Int)])) : OwnU B (l ++ [x]) v w := by
  unfold OwnU
  rw [List.length_append]
  have : u32s (l ++ [x]) = u32s l ++ [.int .u32 (x : Int)] := by simp [u32s]
  rw [this]
  exact h
theorem new_one_u (W : World) (x : Value) : ∀ j u, [x][j]? = some u → (W.alloc (.cells #[x] 48)).cell? ((⟨W.heap.size, 0, none⟩ : Addr).add j) = some u := by
  intro j u hj
  have hnew : (W.alloc (.cells #[x] 48)).heap[W.heap.size]? = some (.cells #[x] 48 (0, 0)) := heap_alloc_new W _
  rcases j with _ | j
  · simp at hj; subst hj
    show (W.alloc (.cells #[x] 48)).cell? ⟨W.heap.size, 0, none⟩ = _
    simp only [World.cell?, hnew]; rfl
  · simp at hj
theorem appU_below {B n : Nat} {l : List Nat} {v : Value} {w wr w1 : World} {X : Obj} (hb : Below B w wr) (hB : B ≤ wr.heap.size) (hown : wr.ownsRow B 48 1 v n (u32s l)) (hg : (wr.alloc X).grownBy w1 v.ownBlock) : Below B w w1 :=
  (hb.alloc hB X).grown hg (by simp; omega) (fun k hk => (hown.lt k hk).1)

theorem one_u (x : Int) : ∀ u ∈ [Value.int .u32 x], u.oneCell' = true := by intro u hu; simp at hu; subst hu; rfl
theorem le_alloc {B : Nat} {w : World} (h : B ≤ w.heap.size) (o : Obj) : B ≤ (w.alloc o).heap.size := by simp; omega

theorem vi3 {k : IntKind} {a b : Int} (h : a = b) : Value.int k a = Value.int k b := by rw [h]

set_option maxHeartbeats 2000000 in
set_option maxRecDepth 100000 in
theorem primes_any (n : Nat) (hn : n ≤ 64) (w : World) :
    Calls Tryd.prog 33 #[.int .i64 n] w fun e w' => ∃ v, e = .returned v ∧ OwnU w.heap.size (Sh.primes64.take n) v w' ∧ Below w.heap.size w w' := by
  obtain ⟨i0, hi, hz0, hz1, hz2⟩ := info_parts infoU
  go_enter Tryd.func33, Tryd.ntmps33
  go_wp2
  go_loopw [3, 4] (fun t3 t4 wr => ∃ (p : Nat) (z : Value), z = t3 ∧ t4 = .int .u32 p ∧ 2 ≤ p ∧ p ≤ 312 ∧ Hid ((Sh.sieve p).length ≤ n) ∧ Hid (OwnU w.heap.size (Sh.sieve p) z wr) ∧ Below w.heap.size w wr) (fun _ t4 _ => (312 - intOf t4).toNat)
  case atStart => exact ⟨2, .slice none 0 0, rfl, rfl, by omega, by omega, Lib.hid (Nat.zero_le _), Lib.hid (ownU_nil _ _), Below.refl _ _⟩
  case round =>
    obtain ⟨p, z, rfl, rfl, hp2, hp312, HL, HO, hb⟩ := hrel
    obtain ⟨l, hl⟩ : ∃ l, Sh.sieve p = l := ⟨_, rfl⟩
    have HSv := Lib.hid hl
    rw [hl] at HL HO
    obtain ⟨a, cap, hzf⟩ := ownU_form HO.out
    subst hzf
    by_cases hlt : l.length < n
    · have hp311 : p < 312 := by
        rcases Nat.lt_or_ge p 312 with h | h
        · exact h
        · have : p = 312 := by omega
          subst this
          rw [Sh.sieve_last] at hl
          rw [← hl] at hlt
          have : Sh.primes64.length = 64 := by decide
          omega
      have HQ : Hid (∀ q ∈ l, 2 ≤ q ∧ q < 4294967296) := by rw [← hl]; exact Lib.hid (Sh.sieve_small p hp312)
      have hl64 : l.length ≤ 64 := by omega
      clear hl
      obtain ⟨wo, rfl⟩ : ∃ wo : World, wo = wr := ⟨_, rfl⟩
      go_wp2
      go_loop [5, 6] (fun t5 t6 => ∃ (k : Nat) (f : Bool), k ≤ l.length ∧ t6 = .int .i64 k ∧ t5 = .bool f ∧ Hid ((l.take k).all (fun q => p % q != 0) = f)) (fun _ t6 => l.length - (intOf t6).toNat)
      case atStart => exact ⟨0, true, Nat.zero_le _, rfl, rfl, Lib.hid (by simp)⟩
      case round =>
        obtain ⟨k, f, hk, rfl, rfl, HF⟩ := hrel
        by_cases hkl : k < l.length
        · obtain ⟨g, cap', hv, _⟩ := ownU_row HO.out (by intro e; subst e; simp at hkl)
          have ha : a = some ⟨g, 0, none⟩ := by injection hv
          subst ha
          have g1 := ownU_cell HO.out k hkl
          have hq := HQ.out l[k] (List.getElem_mem _)
          have HT : Hid ((l.take (k + 1)).all (fun q => p % q != 0) = (f && (p % l[k] != 0))) := by
            rw [List.take_succ_eq_append_getElem hkl, List.all_append, HF.out]
            exact Lib.hid (by simp)
          generalize l[k] = q at *
          have q1 : (1 : Int) ≤ (q : Int) := by omega
          have p0 : (0 : Int) ≤ (p : Int) := by omega
          have tz : ((q : Int) == 0) = false := by rw [beq_eq_false_iff_ne]; omega
          clear hv hq HF
          cases f with
          | false =>
            go_wp2
            go_round
            case rel => exact ⟨k + 1, false, by omega, by go_num, rfl, by rw [HT.out]; exact Lib.hid rfl⟩
            case measure => simp [intOf]; omega
          | true =>
            by_cases hm : p % q = 0
            · have t : (((p : Int) % (q : Int)) != 0) = false := by rw [bne_eq_false_iff_eq]; omega
              have HT2 : Hid ((l.take (k + 1)).all (fun q => p % q != 0) = false) := by rw [HT.out]; exact Lib.hid (by simp [hm])
              clear hm HT
              go_wp2
              go_round
              case rel => exact ⟨k + 1, false, by omega, by go_num, rfl, HT2⟩
              case measure => simp [intOf]; omega
            · have t : (((p : Int) % (q : Int)) != 0) = true := by rw [bne_iff_ne]; omega
              have HT2 : Hid ((l.take (k + 1)).all (fun q => p % q != 0) = true) := by rw [HT.out]; exact Lib.hid (by simp [hm])
              clear hm HT
              go_wp2
              go_round
              case rel => exact ⟨k + 1, true, by omega, by go_num, rfl, HT2⟩
              case measure => simp [intOf]; omega
        · have hk' : k = l.length := by omega
          subst hk'
          have HS1 : Hid (Sh.sieve (p + 1) = if f = true then l ++ [p] else l) := by
            have h1 := HF.out
            rw [List.take_length] at h1
            have h2 : Sh.sieve (p + 1) = if 2 ≤ p ∧ (Sh.sieve p).all (fun q => p % q != 0) = true then Sh.sieve p ++ [p] else Sh.sieve p := rfl
            rw [HSv.out, h1] at h2
            rw [h2]
            refine Lib.hid ?_
            cases f <;> simp [hp2]
          clear HF
          cases f with
          | false =>
            have HS2 : Hid (Sh.sieve (p + 1) = l) := Lib.hid (by rw [HS1.out]; simp)
            have HL2 : Hid ((Sh.sieve (p + 1)).length ≤ n) := by rw [HS2.out]; exact HL
            have HO2 : Hid (OwnU w.heap.size (Sh.sieve (p + 1)) (.slice a l.length cap) wo) := by rw [HS2.out]; exact HO
            clear HS1 HS2 HO HL
            go_wp2
            go_roundw
            case rel => exact ⟨p + 1, _, rfl, vi3 (by omega), by omega, by omega, HL2, HO2, hb⟩
            case measure => simp [intOf]; omega
          | true =>
            have HS2 : Hid (Sh.sieve (p + 1) = l ++ [p]) := Lib.hid (by rw [HS1.out]; simp)
            have HL2 : Hid ((Sh.sieve (p + 1)).length ≤ n) := by rw [HS2.out]; exact Lib.hid (by simp; omega)
            have Hown : Hid (wo.ownsRow w.heap.size 48 1 (.slice a l.length cap) l.length (u32s l)) := HO
            have hsz := hb.size
            clear HS1 HO HL
            have k3 : l.length + 1 ≤ maxLen := by unfold maxLen; omega
            have k4 : (l.length + 1) * 4 ≤ 140737488355328 := by omega
            have K3 := Lib.hid k3
            have K4 := Lib.hid k4
            clear k3 k4
            go_wp2_with (at_builtin; refine wpList_append_own _ rfl _ _ 44 rfl w.heap.size 48 i0 (.int .u32 0) 1 4 Tryd.underlying44 hi hz0 hz1 hz2 rfl (by decide) _ _ _ rfl (Hown.out.alloc _) ⟨wo.heap.size, 0, none⟩ 1 1 [.int .u32 (p : Int)] rfl rfl (new_one_u _ _) (one_u _) K3.out K4.out (le_alloc hsz _) ?_; intro z' w2 hown' hgrow _)
            have hb2 := appU_below hb hsz Hown.out hgrow
            have HO2 : Hid (OwnU w.heap.size (Sh.sieve (p + 1)) z' w2) := by rw [HS2.out]; exact Lib.hid (ownU_snoc hown')
            clear hown' hgrow Hown hb hsz HS2
            go_wp2
            go_roundw
            case rel => exact ⟨p + 1, z', rfl, vi3 (by omega), by omega, by omega, HL2, HO2, hb2⟩
            case measure => simp [intOf]; omega
    · have hln : l.length = n := by have := HL.out; omega
      have HE : Hid (l = Sh.primes64.take n) := by
        have h1 := Sh.sieve_take p hp312
        rw [hl, hln] at h1
        exact Lib.hid h1
      clear hl hln
      go_wp2
      go_ret
      exact ⟨_, rfl, by rw [← HE.out]; exact HO.out, hb⟩
end Go.Proofs.YtkomfgoloepekaaDoor.Rf
