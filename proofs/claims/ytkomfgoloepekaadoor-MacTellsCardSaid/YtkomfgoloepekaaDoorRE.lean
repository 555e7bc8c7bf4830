/- aediculeref02.roots: the first bits of the first primes' roots; turn: a rotation. -/
import Derived.Test.YtkomfgoloepekaaDoorRD
import Derived.Laws.BitsAllLaws
set_option linter.unusedVariables false
namespace Go.Proofs.YtkomfgoloepekaaDoor.Rf
open Go.RowKit

theorem ownU_mono {B B' : Nat} {l : List Nat} {v : Value} {w : World} (h : OwnU B l v w) (hB : B' ≤ B) : OwnU B' l v w := by
  unfold OwnU at *
  refine ⟨h.1, ?_⟩
  rcases h.2 with h2 | ⟨g, cap, cur, hv, hb, r⟩
  · exact Or.inl h2
  · exact Or.inr ⟨g, cap, cur, hv, Nat.le_trans hB hb, r⟩

def rootsL (many n : Nat) : List Nat := (Sh.primes64.take many).map fun p => Sh.root p n
theorem rootsL_keys : rootsL 64 3 = Sh.keys := Sh.keys_are
theorem rootsL_heads : rootsL 8 2 = Sh.heads := Sh.heads_are

set_option maxHeartbeats 2000000 in
set_option maxRecDepth 100000 in
theorem roots_any (many n : Nat) (hm1 : 1 ≤ many) (hm : many ≤ 64) (hn1 : 1 ≤ n) (hn3 : n ≤ 3) (w : World) :
    Calls Tryd.prog 25 #[.int .i64 many, .int .i64 n] w fun e w' => ∃ v, e = .returned v ∧ OwnU w.heap.size (rootsL many n) v w' ∧ Below w.heap.size w w' := by
  obtain ⟨i0, hi, hz0, hz1, hz2⟩ := info_parts infoU
  have HP := Lib.hid (primes_any many hm w)
  have HR := Lib.hid (fun (p : Nat) (hp : p < 4294967296) w => root_any p n hp hn1 hn3 w)
  go_enter Tryd.func25, Tryd.ntmps25
  go_wp2_with fail
  refine (HP.out).mono ?_
  rintro e w1 ⟨v, rfl, q1, q2⟩
  have hlen : (Sh.primes64.take many).length = many := by rw [List.length_take]; have : Sh.primes64.length = 64 := by decide
                                                          omega
  obtain ⟨P, hPdef⟩ : ∃ P, Sh.primes64.take many = P := ⟨_, rfl⟩
  have HPs : Hid (∀ q ∈ P, 2 ≤ q ∧ q < 4294967296) := Lib.hid (fun q hq => by rw [← hPdef] at hq; exact Sh.primes_small q (List.mem_of_mem_take hq))
  have HRL : Hid (rootsL many n = P.map fun p => Sh.root p n) := by unfold rootsL; rw [hPdef]; exact Lib.hid rfl
  rw [hPdef] at q1 hlen
  obtain ⟨g, cap, hv, hgB⟩ := ownU_row q1 (by intro e; subst e; simp at hlen; omega)
  subst hv
  have hglt := ownU_lt q1
  have HQ1 := Lib.hid q1
  have HLen := Lib.hid hlen
  have hB2 : w.heap.size ≤ w1.heap.size := q2.size
  have HQ2 := Lib.hid q2
  clear hPdef q1 hlen q2 HP hgB
  go_wp2
  go_loopw [6, 7] (fun t6 t7 wr => ∃ (k : Nat) (z : Value), k ≤ many ∧ z = t6 ∧ t7 = .int .i64 k ∧ Hid (OwnU w1.heap.size ((P.take k).map fun p => Sh.root p n) z wr) ∧ Below w1.heap.size w1 wr) (fun _ t7 _ => (many - intOf t7).toNat)
  case atStart => exact ⟨0, .slice none 0 0, Nat.zero_le _, rfl, rfl, Lib.hid (ownU_nil _ _), Below.refl _ _⟩
  case round =>
    obtain ⟨k, z, hk, rfl, rfl, HO, hb⟩ := hrel
    by_cases hlt : k < many
    · have hkP : k < P.length := by have := HLen.out; omega
      have g1 : wr.cell? ⟨g, k, none⟩ = some (.int .u32 (P[k] : Int)) := by
        rw [hb.cell (p := ⟨g, k, none⟩) hglt]; exact ownU_cell HQ1.out k hkP
      have HRk := Lib.hid (HR.out P[k] (HPs.out _ (List.getElem_mem _)).2)
      have hkl : (k : Int) < (P.length : Int) := by omega
      have hkn : ((P.take k).map fun p => Sh.root p n).length = k := by rw [List.length_map, List.length_take]; omega
      have Hown : Hid (wr.ownsRow w1.heap.size 48 1 z k (u32s ((P.take k).map fun p => Sh.root p n))) := by
        have h := HO.out; unfold OwnU at h; rw [hkn] at h; exact Lib.hid h
      have HT : Hid ((P.take (k + 1)).map (fun p => Sh.root p n) = (P.take k).map (fun p => Sh.root p n) ++ [Sh.root P[k] n]) := by
        rw [List.take_succ_eq_append_getElem hkP, List.map_append]; exact Lib.hid rfl
      have HKn := Lib.hid hkn
      have hsz := hb.size
      have K3 : Hid (k + 1 ≤ maxLen) := Lib.hid (by unfold maxLen; omega)
      have K4 : Hid ((k + 1) * 4 ≤ 140737488355328) := Lib.hid (by omega)
      generalize hlist : (P.take k).map (fun p => Sh.root p n) = lk at *
      clear HO hkn hlist
      go_wp2_with fail
      refine (HRk.out _).mono ?_
      rintro e w2 ⟨rfl, r2⟩
      have Hown2 : Hid (w2.ownsRow w1.heap.size 48 1 z k (u32s lk)) := Lib.hid (Hown.out.kept (row := none) ⟨r2.os, r2.tape, r2.output, r2.size, fun j hj _ => r2.block j hj⟩ (by
        rcases Hown.out.2 with ⟨h1, _⟩ | ⟨g', cap', cur', h1, _⟩
        · left; rw [h1]; rfl
        · right; rw [h1]; simp [Value.ownBlock]))
      have hb2 := hb.trans (r2.mono hsz)
      have hsz2 := hb2.size
      generalize Sh.root P[k] n = y at *
      clear g1 HRk Hown hb hsz r2
      go_wp2_with (at_builtin; refine wpList_append_own _ rfl _ _ 44 rfl w1.heap.size 48 i0 (.int .u32 0) 1 4 Tryd.underlying44 hi hz0 hz1 hz2 rfl (by decide) _ _ _ rfl (Hown2.out.alloc _) ⟨w2.heap.size, 0, none⟩ 1 1 [.int .u32 (y : Int)] rfl rfl (new_one_u _ _) (one_u _) K3.out K4.out (le_alloc hsz2 _) ?_; intro z' w3 hown' hgrow _)
      have hb3 := appU_below hb2 hsz2 Hown2.out hgrow
      have HO3 : Hid (OwnU w1.heap.size ((P.take (k + 1)).map fun p => Sh.root p n) z' w3) := by
        rw [HT.out]
        refine Lib.hid (ownU_snoc ?_)
        rw [HKn.out]
        exact hown'
      clear hown' hgrow Hown2 hb2 hsz2 HT HKn K3 K4
      go_wp2
      go_roundw
      case rel => exact ⟨k + 1, z', by omega, rfl, by go_num, HO3, hb3⟩
      case measure => simp [intOf]; omega
    · have HE : Hid ((P.take k).map (fun p => Sh.root p n) = rootsL many n) := by
        rw [HRL.out, List.take_of_length_le (by have := HLen.out; omega)]; exact Lib.hid rfl
      go_wp2
      go_ret
      refine ⟨_, rfl, ?_, HQ2.out.trans (hb.mono hB2)⟩
      rw [← HE.out]; exact ownU_mono HO.out hB2

theorem rotr_lt (x n : Nat) (hx : x < 4294967296) : rotr x n < 4294967296 :=
  Nat.or_lt_two_pow (n := 32) (Nat.lt_of_le_of_lt (Nat.div_le_self _ _) hx) (Nat.mod_lt _ (by decide))
theorem rotr_eq (x n : Nat) (hx : x < 4294967296) : bits .or .u32 ((x : Int) / 2 ^ n) ((x : Int) * 2 ^ (32 - n) % 4294967296) = (rotr x n : Nat) := by
  have e1 : ((x : Int) / 2 ^ n) = ((x / 2 ^ n : Nat) : Int) := by simp
  have e3 : ((x : Int) * 2 ^ (32 - n) % 4294967296) = ((x * 2 ^ (32 - n) % 4294967296 : Nat) : Int) := by simp
  rw [e1, e3, u32_or_nat _ _ (Nat.lt_of_le_of_lt (Nat.div_le_self _ _) hx) (Nat.mod_lt _ (by decide))]
  rfl

set_option maxHeartbeats 1000000 in
theorem turn_walk (x n : Int) (hx : 0 ≤ x) (hx2 : x < 4294967296) (hn : 0 ≤ n) (hn2 : n ≤ 32) (w : World) :
    Calls Tryd.prog 36 #[.int .u32 x, .int .u64 n] w fun e w' => e = .returned (.int .u32 (rotr x.toNat n.toNat : Nat)) ∧ w = w' := by
  obtain ⟨X, rfl⟩ := Int.eq_ofNat_of_zero_le hx
  obtain ⟨N, rfl⟩ := Int.eq_ofNat_of_zero_le hn
  have HE := Lib.hid (rotr_eq X N (by omega))
  rw [Int.toNat_natCast, Int.toNat_natCast]
  generalize rotr X N = r at *
  go_enter Tryd.func36, Tryd.ntmps36
  go_wp2
  go_ret
  exact ⟨ret_u32' HE.out, rfl⟩
end Go.Proofs.YtkomfgoloepekaaDoor.Rf
