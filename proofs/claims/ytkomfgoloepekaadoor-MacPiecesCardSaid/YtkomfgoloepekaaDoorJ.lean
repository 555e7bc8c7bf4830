/- What the document's own Hex (package aediculeref01) makes of a text. -/
import Derived.Test.YtkomfgoloepekaaDoorI
import Derived.Deep.AppendLies
import Derived.Deep.RegionHeld3
set_option linter.unusedVariables false
namespace Go.Proofs.YtkomfgoloepekaaDoor
open Go.RowKit

/-- A digit's letter; the digits of bytes. -/
def hd (d : Nat) : Nat := if d < 10 then 48 + d else 87 + d
def hexN (l : List Nat) : List Nat := l.flatMap fun b => [hd (b / 16), hd (b % 16)]
theorem hexN_length (l : List Nat) : (hexN l).length = 2 * l.length := by
  unfold hexN
  induction l with
  | nil => rfl
  | cons x l ih => rw [List.flatMap_cons, List.length_append, ih]; simp; omega
theorem hexN_small (l : List Nat) (h : ∀ x ∈ l, x < 256) : ∀ x ∈ hexN l, x < 256 := by
  intro x hx
  unfold hexN at hx
  obtain ⟨y, hy, hm⟩ := List.mem_flatMap.1 hx
  have hy2 := h y hy
  simp only [List.mem_cons, List.not_mem_nil, or_false] at hm
  rcases hm with rfl | rfl <;> unfold hd <;> split <;> omega
theorem nats_get (s : ByteArray) (k : Nat) (h : k < s.size) (h2 : k < (nats s).length) : (nats s)[k] = s[k].toNat := by
  simp [nats]; rfl
theorem hexN_take (s : ByteArray) (k : Nat) (h : k < s.size) : hexN ((nats s).take (k + 1)) = hexN ((nats s).take k) ++ [hd (s[k].toNat / 16), hd (s[k].toNat % 16)] := by
  have h2 : k < (nats s).length := by rw [nats_length]; exact h
  unfold hexN
  rw [List.take_succ_eq_append_getElem h2, List.flatMap_append, nats_get s k h h2]
  simp
theorem digit_at (x : Int) (h0 : 0 ≤ x) (h : x < 16) (W : World) :
    (Instr.index 9 (.string ⟨#[48, 49, 50, 51, 52, 53, 54, 55, 56, 57, 97, 98, 99, 100, 101, 102]⟩) (.int .u8 x)).run Tryd.prog W = .ok (.int .u8 (hd x.toNat : Int)) W := by
  have hx : x = 0 ∨ x = 1 ∨ x = 2 ∨ x = 3 ∨ x = 4 ∨ x = 5 ∨ x = 6 ∨ x = 7 ∨ x = 8 ∨ x = 9 ∨ x = 10 ∨ x = 11 ∨ x = 12 ∨ x = 13 ∨ x = 14 ∨ x = 15 := by omega
  rcases hx with rfl | rfl | rfl | rfl | rfl | rfl | rfl | rfl | rfl | rfl | rfl | rfl | rfl | rfl | rfl | rfl <;> rfl
theorem appB_below_drew {B n : Nat} {l : List Nat} {v : Value} {w wr w1 : World} {X : Obj} (hb : Below B w wr) (hB : B ≤ wr.heap.size) (hown : wr.ownsRow B 5 1 v n (u8s l)) (hg : (wr.alloc X).drew.grownBy w1 v.ownBlock) : Below B w w1 :=
  ((hb.alloc hB X).drew).grown hg (by simp; omega) (fun k hk => (hown.lt k hk).1)

set_option maxHeartbeats 1000000 in
set_option maxRecDepth 100000 in
theorem rhex_any (s : ByteArray) (hs : s.size ≤ 1048576) (w : World) :
    Calls Tryd.prog 15 #[.string s] w fun e w' => e = .returned (.string (str (hexN (nats s)))) ∧ Below w.heap.size w w' := by
  obtain ⟨i0, hi, hz0, hz1, hz2⟩ := info_parts infoByte
  go_enter Tryd.func15, Tryd.ntmps15
  go_wp2
  go_loopw [3, 4] (fun sl i wr => ∃ (k : Nat) (z : Value), k ≤ s.size ∧ i = .int .i64 k ∧ z = sl ∧ Hid (OwnB w.heap.size (hexN ((nats s).take k)) z wr) ∧ Below w.heap.size w wr) (fun _ i _ => s.size - (intOf i).toNat)
  case atStart => exact ⟨0, .slice none 0 0, by omega, rfl, rfl, Lib.hid (ownB_nil _ _), Below.refl _ _⟩
  case round =>
    obtain ⟨k, sl, hk, rfl, rfl, HO, hb⟩ := hrel
    by_cases hlt : k < s.size
    · have hlen : (hexN ((nats s).take k)).length = 2 * k := by rw [hexN_length, List.length_take, nats_length]; omega
      have hown : wr.ownsRow w.heap.size 5 1 sl (2 * k) (u8s (hexN ((nats s).take k))) := by have := HO.out; unfold OwnB at this; rw [hlen] at this; exact this
      have Hown := Lib.hid hown
      have Hlen := Lib.hid hlen
      have HT := Lib.hid (hexN_take s k hlt)
      have hsz := hb.size
      clear hown HO hlen
      obtain ⟨X, hX⟩ : ∃ X : Int, X = (hd (s[k].toNat / 16) : Int) := ⟨_, rfl⟩
      obtain ⟨Y, hY⟩ : ∃ Y : Int, Y = (hd (s[k].toNat % 16) : Int) := ⟨_, rfl⟩
      have hx1 : ∀ W, (Instr.index 9 (.string ⟨#[48, 49, 50, 51, 52, 53, 54, 55, 56, 57, 97, 98, 99, 100, 101, 102]⟩) (.int .u8 (IntKind.u8.wrap ((s[k].toNat : Int) / 16)))).run Tryd.prog W = .ok (.int .u8 X) W := by
        intro W
        have hb := s[k].toNat_lt
        rw [hX, IntKind.wrap_u8', show ((s[k].toNat : Int) / 16 % 256) = (s[k].toNat : Int) / 16 by omega]
        exact digit_at _ (by omega) (by omega) W
      have hx2 : ∀ W, (Instr.index 9 (.string ⟨#[48, 49, 50, 51, 52, 53, 54, 55, 56, 57, 97, 98, 99, 100, 101, 102]⟩) (.int .u8 ((s[k].toNat : Int) % 16))).run Tryd.prog W = .ok (.int .u8 Y) W := by
        intro W
        have hb := s[k].toNat_lt
        rw [hY]
        exact digit_at _ (by omega) (by omega) W
      have hx3 : ∀ W, (Instr.index 9 (.string ⟨#[48, 49, 50, 51, 52, 53, 54, 55, 56, 57, 97, 98, 99, 100, 101, 102]⟩) (.int .u8 ((s[k].toNat : Int).tmod 16))).run Tryd.prog W = .ok (.int .u8 Y) W := by
        intro W
        rw [Int.tmod_eq_emod_of_nonneg (by omega)]
        exact hx2 W
      have hx4 : ∀ W, (Instr.index 9 (.string ⟨#[48, 49, 50, 51, 52, 53, 54, 55, 56, 57, 97, 98, 99, 100, 101, 102]⟩) (.int .u8 (IntKind.u8.wrap ((s[k].toNat : Int).tmod 16)))).run Tryd.prog W = .ok (.int .u8 Y) W := by
        intro W
        rw [Int.tmod_eq_emod_of_nonneg (by omega), IntKind.wrap_u8', show ((s[k].toNat : Int) % 16 % 256) = (s[k].toNat : Int) % 16 by omega]
        exact hx2 W
      have hx5 : ∀ W, (Instr.index 9 (.string ⟨#[48, 49, 50, 51, 52, 53, 54, 55, 56, 57, 97, 98, 99, 100, 101, 102]⟩) (.int .u8 (IntKind.u8.wrap ((s[k].toNat : Int) % 16)))).run Tryd.prog W = .ok (.int .u8 Y) W := by
        intro W
        rw [IntKind.wrap_u8', show ((s[k].toNat : Int) % 16 % 256) = (s[k].toNat : Int) % 16 by omega]
        exact hx2 W
      have HX := Lib.hid hX
      have HY := Lib.hid hY
      clear hX hY
      have k0 : (0 : Int) ≤ (k : Int) := by omega
      have k1 : (k : Int) < (s.size : Int) := by omega
      go_wp2_with fail
      go_region_held3 (fun _ => True) (trivial)
        ((refine step_append_lies _ (by rfl) _ _ _ (by rfl) w.heap.size 5 i0 _ 1 1 Tryd.underlying33 hi hz0 hz1 hz2 rfl (by omega) sl (2 * k) (u8s (hexN ((nats s).take k))) (by rfl) ((Hown.out.alloc _).drew)
              ⟨wr.heap.size, 0, none⟩ 2 2 [.int .u8 X, .int .u8 Y] (by rfl) (by rfl) (World.news_of_block (cs := #[.int .u8 X, .int .u8 Y]) (t := 5) (fr := (0, 0)) (heap_alloc_new wr _)) (by simp [Value.oneCell'])
              (by omega) (by unfold maxLen; omega) (by omega) (by simp; omega) (wr.heap.size + 1) (by simp) ?_; intro gg cap w1 hown1 hgrow hat hlt'))
      all_goals
        have hb1 := appB_below_drew hb hsz Hown.out hgrow
        have HO1 : Hid (OwnB w.heap.size (hexN ((nats s).take (k + 1))) (.slice (some ⟨gg, 0, none⟩) (2 * k + 2) cap) w1) := by
          rw [HT.out]
          refine Lib.hid (ownB_more (by rw [Hlen.out]; first | done | rfl) ?_)
          have e1 := HX.out
          have e2 := HY.out
          rw [e1, e2] at hown1
          exact hown1
        clear hown1 hgrow hat hlt' Hown Hlen HT hb hsz hx1 hx2 hx3 hx4 hx5 HX HY
        go_wp2
        go_roundw
      all_goals first
        | (case rel => exact ⟨k + 1, _, by omega, by go_num, rfl, HO1, hb1⟩)
        | (case measure => simp [intOf]; omega)
    · have hconv := ownB_text HO.out (hexN_small _ (fun x hx => nats_small s x (List.mem_of_mem_take hx)))
      have HE := Lib.hid (show (nats s).take k = nats s by rw [List.take_of_length_le (by rw [nats_length]; omega)])
      obtain ⟨a', n', c', hsl⟩ := ownB_slice HO.out
      subst hsl
      go_wp2
      go_ret
      exact ⟨ret_str (by rw [HE.out]), hb⟩
end Go.Proofs.YtkomfgoloepekaaDoor
