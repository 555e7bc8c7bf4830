/- InsnAll: the empty lists, nil or not, and lists that are too long; all cases together. -/
import Derived.Test.YtillcbmjpcbpaaaDoorYL
set_option linter.unusedVariables false
namespace Go.Proofs.YtillcbmjpcbpaaaDoor
open Go.RowKit

set_option maxHeartbeats 1000000 in
set_option maxRecDepth 100000 in
theorem all_empty (w : World) : Calls Tryd.prog 14 #[.slice none 0 0] w fun e w' => e = .returned (.tuple #[.string ⟨#[]⟩, .int .i64 0]) ∧ Below w.heap.size w w' := by
  have HI := Lib.hid (show Lib.IsBuilder 54 5 w.heap.size w.heap.size (Lib.byteCells []) (w.alloc (.cells #[.pointer none, .slice none 0 0] 54)) from Lib.fresh_isBuilder 54 5 w)
  have hb : Below w.heap.size w (w.alloc (.cells #[.pointer none, .slice none 0 0] 54)) := (Below.refl _ _).alloc (Nat.le_refl _) _
  go_enter Tryd.func14, Tryd.ntmps14
  go_wp2
  go_loopw [11] (fun i wr => i = .int .i64 0 ∧ Hid (Lib.IsBuilder 54 5 w.heap.size w.heap.size (Lib.byteCells []) wr) ∧ Below w.heap.size w wr) (fun i _ => 0)
  case atStart => exact ⟨rfl, HI, hb⟩
  case round =>
    obtain ⟨rfl, hB, hbr⟩ := hrel
    go_wp2_with fail
    refine (string_any w.heap.size w.heap.size [] wr hB.out hbr.size).mono ?_
    rintro e w1 ⟨rfl, q⟩
    go_wp2
    go_ret2
    exact ⟨rfl, hbr.trans q⟩

theorem kb_step' {w wi wj : World} (h : Tabled wi ∧ Below w.heap.size w wi) (q : Below wi.heap.size wi wj) : Tabled wj ∧ Below w.heap.size w wj := ⟨h.1.below q, h.2.trans (q.mono h.2.size)⟩

set_option maxHeartbeats 2000000 in
set_option maxRecDepth 100000 in
theorem law_nil (w : World) (hk : Tabled w) : Calls Tryd.prog 4 #[.slice none 0 0] w fun e w' => e = .returned (.bool true) ∧ Below w.heap.size w w' := by
  obtain ⟨i0, hi, hz0, hz1, hz2⟩ := info_parts infoInsn
  have HK := Lib.hid hk
  clear hk
  go_enter Tryd.func4, Tryd.ntmps4
  go_wp2_with (at_builtin; refine wpList_append_own_none rfl _ _ 39 rfl w.heap.size 24 i0 5 Tryd.underlying39 hi _ 0 [] rfl (World.ownsRow_nil _ _ _ _) rfl ?_)
  clear hi hz0 hz1 hz2
  go_wp2_with fail
  refine (all_empty w).mono ?_
  rintro e w1 ⟨rfl, q⟩
  have K1 := Lib.hid (kb_step' ⟨HK.out, Below.refl _ _⟩ q)
  clear q
  go_wp2_with fail
  go_loopw [6, 7] (fun wv i wr => wv = .string ⟨#[]⟩ ∧ i = .int .i64 0 ∧ Hid (Tabled wr ∧ Below w.heap.size w wr)) (fun _ _ _ => 0)
  case atStart => exact ⟨rfl, rfl, K1⟩
  case round =>
    obtain ⟨rfl, rfl, K2⟩ := hrel
    clear K1
    go_wp2_with fail
    refine (alive_any _ K2.out.1).mono ?_
    rintro e w2 ⟨rfl, q⟩
    have K3 := Lib.hid (kb_step' K2.out q)
    clear q K2
    go_wp2
    go_ret
    exact ⟨rfl, K3.out.2⟩

set_option maxHeartbeats 2000000 in
set_option maxRecDepth 100000 in
theorem law_none (ad : Addr) (c : Nat) (w : World) (hk : Tabled w) : Calls Tryd.prog 4 #[.slice (some ad) 0 c] w fun e w' => e = .returned (.bool true) ∧ Below w.heap.size w w' := by
  obtain ⟨i0, hi, hz0, hz1, hz2⟩ := info_parts infoInsn
  have HK := Lib.hid hk
  clear hk
  go_enter Tryd.func4, Tryd.ntmps4
  go_wp2_with (at_builtin; refine wpList_append_own _ rfl _ _ 39 rfl w.heap.size 24 i0 (.agg #[.int .u8 0, .int .u8 0, .int .u8 0, .int .u8 0, .int .u32 0]) 5 8 Tryd.underlying39 hi hz0 hz1 hz2 rfl (by decide) _ 0 [] rfl (World.ownsRow_nil _ _ _ _) ad 0 c [] rfl rfl (fun j u hj => by simp at hj) (fun u hu => by cases hu) ?c3 ?c4 ?c5 ?_)
  case c3 => decide
  case c4 => decide
  case c5 => exact Nat.le_refl _
  intro v' w1 hown hgrow hnil
  have hb1 : Below w.heap.size w w1 := (Below.refl _ _).grown hgrow (Nat.le_refl _) (fun k hk => by cases hk)
  obtain rfl : v' = .slice none 0 0 := hnil
  have K0 := Lib.hid (show Tabled w1 ∧ Below w.heap.size w w1 from ⟨HK.out.below hb1, hb1⟩)
  clear hown hgrow hb1 HK hi hz0 hz1 hz2
  go_wp2_with fail
  refine (all_empty w1).mono ?_
  rintro e w2 ⟨rfl, q⟩
  have K1 := Lib.hid (kb_step' K0.out q)
  clear q K0
  go_wp2_with fail
  go_loopw [6, 7] (fun wv i wr => wv = .string ⟨#[]⟩ ∧ i = .int .i64 0 ∧ Hid (Tabled wr ∧ Below w.heap.size w wr)) (fun _ _ _ => 0)
  case atStart => exact ⟨rfl, rfl, K1⟩
  case round =>
    obtain ⟨rfl, rfl, K2⟩ := hrel
    clear K1
    go_wp2_with fail
    refine (alive_any _ K2.out.1).mono ?_
    rintro e w2 ⟨rfl, q⟩
    have K3 := Lib.hid (kb_step' K2.out q)
    clear q K2
    go_wp2
    go_ret
    exact ⟨rfl, K3.out.2⟩

set_option maxHeartbeats 1000000 in
theorem law_long (a : Option Addr) (n c : Nat) (h : (300 : Int) < (n : Int)) (w : World) (hk : Tabled w) : Calls Tryd.prog 4 #[.slice a n c] w fun e w' => e = .returned (.bool true) ∧ Below w.heap.size w w' := by
  have HK := Lib.hid hk
  clear hk
  go_enter Tryd.func4, Tryd.ntmps4
  go_wp2_with fail
  refine (alive_any _ HK.out).mono ?_
  rintro e w1 ⟨rfl, q⟩
  go_wp2
  go_ret
  exact ⟨rfl, q⟩

/-- InsnAll at whatever list of up to 300 instructions that is not nil. -/
theorem law_list (l : List Ins) (ad : Addr) (c : Nat) (w : World) (hk : Tabled w) (hl : l.length ≤ 300) (hF : ∀ k, k < l.length → (l.getD k Ins.nought).fits)
    (hL : l = [] ∨ ∃ g o, ad = ⟨g, o, none⟩ ∧ g < w.heap.size ∧ Lie w g o l) :
    Calls Tryd.prog 4 #[.slice (some ad) l.length c] w fun e w' => e = .returned (.bool true) ∧ Below w.heap.size w w' := by
  rcases hL with rfl | ⟨g, o, rfl, hg, hL⟩
  · exact law_none ad c w hk
  · by_cases hz : l.length = 0
    · have : l = [] := List.eq_nil_of_length_eq_zero hz
      subst this
      exact law_none _ c w hk
    · have hA := fun (g' c' : Nat) (w : World) (hk : Tabled w) (hg : g' < w.heap.size) (hL : Lie w g' 0 l) => all_some l g' 0 c' w hl hk hg hL hF
      by_cases ho : allOk l = true
      · rw [allS_ok l ho, allE_ok l ho] at hA
        exact all_law_yes l g o c w hl (by omega) hk hg hL hF _ (Lib.hid rfl) (Lib.hid ho) (Lib.hid hA)
      · have ho' : allOk l = false := by simpa using ho
        rw [allS_no l ho', allE_no l ho'] at hA
        exact all_law_no l g o c w hl (by omega) hk hg hL hF (Lib.hid ho') (Lib.hid hA)
end Go.Proofs.YtillcbmjpcbpaaaDoor
