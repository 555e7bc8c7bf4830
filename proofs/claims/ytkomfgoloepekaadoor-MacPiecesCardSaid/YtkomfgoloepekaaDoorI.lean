/- sha.Sum, and (*Hash).Write. -/
import Derived.Test.YtkomfgoloepekaaDoorH
set_option linter.unusedVariables false
namespace Go.Proofs.YtkomfgoloepekaaDoor
open Go.RowKit

theorem Below.keyed {w w' : World} (h : Keyed w) (hb : Below w.heap.size w w') : Keyed w' := h.below hb
set_option maxHeartbeats 1000000 in
theorem sum_any (s : ByteArray) (w : World) (hk : Keyed w) (hs : s.size ≤ 4294967296) :
    Calls Tryd.prog 14 #[.string s] w fun e w' => e = .returned (.string (str (Sh.sum (nats s)))) ∧ Below w.heap.size w w' := by
  have HK := Lib.hid hk
  have HS := Lib.hid hs
  have HN := Lib.hid (nats_length s)
  have HE : Hid (str (Sh.sum (nats s)) = str (Sh.sum ([] ++ nats s))) := Lib.hid rfl
  clear hk hs
  go_enter Tryd.func14, Tryd.ntmps14
  go_wp2_with fail
  refine (new_any _).mono ?_; rintro e w1 ⟨g, rfl, hg, hh, hb⟩
  have hk1 := HK.out.below hb
  have HW : Hid (Calls Tryd.prog 23 #[.pointer (some ⟨g, 0, none⟩), .string s] w1 fun e w' => e = .returned (.tuple #[]) ∧ HashOf w' g ([] ++ nats s) ∧ w1.grownBy w' (some g)) :=
    Lib.hid (write_any s [] g w1 hk1 (by have := HK.out.1; omega) hh (by have := HS.out; simp; omega))
  have HK1 := Lib.hid hk1
  have HG : Hid (g ≠ 0) := Lib.hid (by have := HK.out.1; omega)
  clear hk1 hh
  go_wp2_with fail
  refine HW.out.mono ?_; rintro e w2 ⟨rfl, hh2, hg2⟩
  have hk2 := HK1.out.grown hg2 HG.out
  have hb2 := Below.ofGrown hb hg2 hg hb.size
  have HU : Hid (Calls Tryd.prog 24 #[.pointer (some ⟨g, 0, none⟩)] w2 fun e w' => e = .returned (.string (str (Sh.sum ([] ++ nats s)))) ∧ Below w2.heap.size w2 w') :=
    Lib.hid (hsum_any g ([] ++ nats s) w2 hk2 hh2 (by have := HS.out; have := HN.out; simp; omega))
  clear hk2 hh2 hg2 hb HW
  go_wp2_with fail
  refine HU.out.mono ?_; rintro e w3 ⟨rfl, hb3⟩
  go_wp2
  go_ret
  exact ⟨ret_str (by rw [HE.out]), hb2.trans (hb3.mono hb2.size)⟩

/-- The slice v holds the texts ss. -/
def Strs (w : World) (v : Value) (ss : List ByteArray) : Prop :=
  ∃ a c, v = .slice a ss.length c ∧ (ss = [] ∨ ∃ b o, a = some ⟨b, o, none⟩ ∧ b < w.heap.size ∧ ∀ j, j < ss.length → w.cell? ⟨b, o + j, none⟩ = some (.string (ss.getD j ⟨#[]⟩)))
/-- What many texts hold, one behind the other. -/
def allNats (ss : List ByteArray) : List Nat := ss.flatMap nats
theorem allNats_take (ss : List ByteArray) (i : Nat) (h : i < ss.length) : allNats (ss.take (i + 1)) = allNats (ss.take i) ++ nats (ss.getD i ⟨#[]⟩) := by
  unfold allNats
  rw [List.take_succ_eq_append_getElem h, List.flatMap_append]
  simp [List.getD_eq_getElem?_getD, h]
theorem allNats_le (ss : List ByteArray) (i : Nat) : (allNats (ss.take i)).length ≤ (allNats ss).length := by
  have h : allNats ss = allNats (ss.take i) ++ allNats (ss.drop i) := by
    unfold allNats; rw [← List.flatMap_append, List.take_append_drop]
  rw [h, List.length_append]; omega

set_option maxHeartbeats 1000000 in
set_option maxRecDepth 100000 in
theorem writes_any (g : Nat) (v : Value) (ss : List ByteArray) (l : List Nat) (w : World) (hk : Keyed w) (hg : g ≠ 0) (hh : HashOf w g l) (hs : ∃ a c, v = .slice a ss.length c ∧ (ss = [] ∨ ∃ b o, a = some ⟨b, o, none⟩ ∧ b < w.heap.size ∧ b ≠ g ∧ ∀ j, j < ss.length → w.cell? ⟨b, o + j, none⟩ = some (.string (ss.getD j ⟨#[]⟩)))) (hl : l.length + (allNats ss).length ≤ 4294967296) (hss : ss.length ≤ 4294967296) :
    Calls Tryd.prog 28 #[.pointer (some ⟨g, 0, none⟩), v] w fun e w' => e = .returned (.int .i64 0) ∧ HashOf w' g (l ++ allNats ss) ∧ w.grownBy w' (some g) := by
  obtain ⟨a, c, rfl, hcells⟩ := hs
  have HC := Lib.hid hcells
  have HK := Lib.hid hk
  have HG := Lib.hid hg
  have HL := Lib.hid hl
  have HH := Lib.hid hh
  clear hk hg hh hl hcells
  obtain ⟨n, hn⟩ : ∃ n, n = ss.length := ⟨_, rfl⟩
  have HN := Lib.hid hn
  rw [← hn] at hss ⊢
  clear hn
  go_enter Tryd.func28, Tryd.ntmps28
  go_wp2
  go_loopw [11] (fun t11 wr => ∃ i : Nat, i ≤ n ∧ t11 = .int .i64 i ∧ Hid (HashOf wr g (l ++ allNats (ss.take i))) ∧ Hid (w.grownBy wr (some g))) (fun t11 _ => (n - intOf t11).toNat)
  case atStart => exact ⟨0, by omega, rfl, by simpa [allNats] using HH, Lib.hid (World.grownBy.refl w _)⟩
  case round =>
    obtain ⟨i, hi, rfl, HO, HGr⟩ := hrel
    by_cases hlt : i < n
    · obtain ⟨b, o, ha, hbl, hbg, hcl⟩ := (HC.out).resolve_left (by rintro rfl; have := HN.out; simp at this; omega)
      have hc0 : wr.cell? ⟨b, o + i, none⟩ = some (.string (ss.getD i ⟨#[]⟩)) :=
        (World.cell?_of_block (HGr.out.block b hbl (fun e => by injection e; contradiction))).trans (hcl i (by have := HN.out; omega))
      have HA : Hid (allNats (ss.take (i + 1)) = allNats (ss.take i) ++ nats (ss.getD i ⟨#[]⟩)) := Lib.hid (allNats_take ss i (by have := HN.out; omega))
      have hkr := HK.out.grown HGr.out HG.out
      have HW : Hid (Calls Tryd.prog 23 #[.pointer (some ⟨g, 0, none⟩), .string (ss.getD i ⟨#[]⟩)] wr fun e w' => e = .returned (.tuple #[]) ∧ HashOf w' g (l ++ allNats (ss.take i) ++ nats (ss.getD i ⟨#[]⟩)) ∧ wr.grownBy w' (some g)) := by
        refine Lib.hid (write_any (ss.getD i ⟨#[]⟩) (l ++ allNats (ss.take i)) g wr hkr HG.out HO.out ?_)
        have h1 := allNats_le ss (i + 1)
        have h2 := HL.out
        rw [HA.out, List.length_append, nats_length] at h1
        rw [List.length_append]; omega
      subst ha
      clear hcl hbl hbg hkr HO
      generalize ss.getD i ⟨#[]⟩ = s at *
      have m1 : (0 : Int) ≤ (i : Int) := by omega
      have m2 : (i : Int) < (n : Int) := by omega
      go_wp2_with fail
      refine HW.out.mono ?_; rintro e w2 ⟨rfl, hh2, hg2⟩
      have HO2 : Hid (HashOf w2 g (l ++ allNats (ss.take (i + 1)))) := by rw [HA.out, ← List.append_assoc]; exact Lib.hid hh2
      have HG2 : Hid (w.grownBy w2 (some g)) := Lib.hid (only_trans HGr.out hg2)
      clear hh2 hg2 HW hc0 HGr
      go_wp2
      go_roundw
      case rel => exact ⟨i + 1, by omega, by go_num, HO2, HG2⟩
      case measure => simp [intOf]; omega
    · have hin : i = n := by omega
      subst hin
      have HE : Hid (ss.take i = ss) := Lib.hid (List.take_of_length_le (by have := HN.out; omega))
      go_wp2
      go_ret
      exact ⟨rfl, by have h := HO.out; rw [HE.out] at h; exact h, HGr.out⟩
end Go.Proofs.YtkomfgoloepekaaDoor
