/- Some texts of one proof, one behind the other; each has its own head below. -/
import Derived.Test.YtbpdoiikleaidaaX00
import Derived.Test.YtbpdoiikleaidaaX04
import Derived.LoopTactic
/- Texts and lists as bytes, and a reader of bytes, as plain functions on lists. -/
section
namespace Go.Proofs.Ytbpdoiikleaidaa.Pk

def txt (s : List UInt8) : List UInt8 := Wd.le s.length 2 ++ s
def txtE (s : List UInt8) : Int := if 65535 < s.length then 5 else 0
def okAll (l : List (List UInt8)) : Bool := l.all fun s => decide (s.length ≤ 65535)
def lstE (l : List (List UInt8)) : Int := if 4096 < l.length then 5 else if okAll l = true then 0 else 5
def cat (l : List (List UInt8)) : List UInt8 := (l.map txt).flatten
def lst (l : List (List UInt8)) : List UInt8 := Wd.le l.length 2 ++ cat l

/-- A reader: the bytes that are left, the fault. -/
structure Rd where
  S : List UInt8
  E : Int
def take (r : Rd) (n : Int) : List UInt8 × Rd :=
  if r.E ≠ 0 then ([], r) else if n < 0 then ([], ⟨r.S, 2⟩) else if (r.S.length : Int) < n then ([], ⟨r.S, 6⟩) else (r.S.take n.toNat, ⟨r.S.drop n.toNat, 0⟩)
def num (r : Rd) (n : Int) : Nat × Rd := if r.E = 0 ∧ (n < 1 ∨ 4 < n) then (0, ⟨r.S, 2⟩) else (Wd.unle (take r n).1, (take r n).2)
def text (r : Rd) : List UInt8 × Rd :=
  if (num r 2).2.E ≠ 0 then ([], (num r 2).2)
  else if (take (num r 2).2 (num r 2).1).2.E ≠ 0 then ([], ⟨r.S, (take (num r 2).2 (num r 2).1).2.E⟩) else take (num r 2).2 (num r 2).1
/-- So many texts; the first fault ends it. -/
def textsN : Nat → Rd → List (List UInt8) × Rd
  | 0, r => ([], r)
  | n + 1, r => if (text r).2.E ≠ 0 then ([], (text r).2) else ((text r).1 :: (textsN n (text r).2).1, (textsN n (text r).2).2)
def texts (r : Rd) : List (List UInt8) × Rd :=
  if (num r 2).2.E ≠ 0 then ([], (num r 2).2)
  else if 4096 < (num r 2).1 then ([], ⟨r.S, 7⟩)
  else if (textsN (num r 2).1 (num r 2).2).2.E ≠ 0 then ([], ⟨r.S, (textsN (num r 2).1 (num r 2).2).2.E⟩) else textsN (num r 2).1 (num r 2).2
def fin (r : Rd) : Rd := if r.E ≠ 0 then r else if r.S ≠ [] then ⟨r.S, 7⟩ else r

/-! what was packed is read -/
theorem take_all (a b : List UInt8) : take ⟨a ++ b, 0⟩ (a.length : Int) = (a, ⟨b, 0⟩) := by
  unfold take
  rw [if_neg (by simp), if_neg (by omega), if_neg (by simp; omega)]
  simp
theorem num_put (v n : Nat) (h1 : 1 ≤ n) (h4 : n ≤ 4) (hv : v < 256 ^ n) (more : List UInt8) : num ⟨Wd.le v n ++ more, 0⟩ (n : Int) = (v, ⟨more, 0⟩) := by
  have h := take_all (Wd.le v n) more
  rw [Wd.le_length] at h
  unfold num
  rw [if_neg (by omega), h, Wd.unle_le, Nat.mod_eq_of_lt hv]
theorem pow2 : (256 : Nat) ^ 2 = 65536 := by decide
theorem num2 (v : Nat) (hv : v < 65536) (more : List UInt8) : num ⟨Wd.le v 2 ++ more, 0⟩ 2 = (v, ⟨more, 0⟩) := num_put v 2 (by decide) (by decide) (by rw [pow2]; exact hv) more
theorem text_txt (s more : List UInt8) (hs : s.length ≤ 65535) : text ⟨txt s ++ more, 0⟩ = (s, ⟨more, 0⟩) := by
  have h := num2 s.length (by omega) (s ++ more)
  unfold text
  rw [show txt s ++ more = Wd.le s.length 2 ++ (s ++ more) by simp [txt], h]
  simp only [take_all]
  simp
theorem textsN_cat (l : List (List UInt8)) (more : List UInt8) (h : okAll l = true) : textsN l.length ⟨cat l ++ more, 0⟩ = (l, ⟨more, 0⟩) := by
  induction l with
  | nil => rfl
  | cons s l ih =>
    unfold okAll at h
    rw [List.all_cons, Bool.and_eq_true, decide_eq_true_eq] at h
    have e : cat (s :: l) ++ more = txt s ++ (cat l ++ more) := by simp [cat]
    have ht := text_txt s (cat l ++ more) h.1
    rw [List.length_cons, textsN, e, ht, ih h.2]
    simp
theorem lstE_ok {l : List (List UInt8)} (h : lstE l = 0) : l.length ≤ 4096 ∧ okAll l = true := by
  unfold lstE at h
  split at h
  · cases h
  · split at h
    · rename_i h1 h2; exact ⟨by omega, h2⟩
    · cases h
theorem lstE_two (l : List (List UInt8)) : lstE l = 0 ∨ lstE l = 5 := by unfold lstE; split; exact .inr rfl; split <;> simp
theorem texts_lst (l : List (List UInt8)) (more : List UInt8) (h : lstE l = 0) : texts ⟨lst l ++ more, 0⟩ = (l, ⟨more, 0⟩) := by
  obtain ⟨h1, h2⟩ := lstE_ok h
  have hn := num2 l.length (by omega) (cat l ++ more)
  have ht := textsN_cat l more h2
  unfold texts
  rw [show lst l ++ more = Wd.le l.length 2 ++ (cat l ++ more) by simp [lst], hn]
  simp only [ht]
  rw [if_neg (by simp), if_neg (by omega), if_neg (by simp)]

/-! of what is read the bytes are those that it was read of -/
theorem take_back {r : Rd} {n : Int} (h0 : r.E = 0) (h : (take r n).2.E = 0) : 0 ≤ n ∧ n ≤ r.S.length ∧ take r n = (r.S.take n.toNat, ⟨r.S.drop n.toNat, 0⟩) := by
  unfold take at h ⊢
  rw [if_neg (by simp [h0])] at h ⊢
  by_cases h1 : n < 0
  · rw [if_pos h1] at h; cases h
  · rw [if_neg h1] at h ⊢
    by_cases h2 : (r.S.length : Int) < n
    · rw [if_pos h2] at h; cases h
    · rw [if_neg h2]; exact ⟨by omega, by omega, rfl⟩
theorem take_fault {r : Rd} {n : Int} (h : (take r n).2.E ≠ 0) : (take r n).1 = [] ∧ (take r n).2.S = r.S := by
  unfold take at h ⊢
  split
  · exact ⟨rfl, rfl⟩
  · split
    · exact ⟨rfl, rfl⟩
    · split
      · exact ⟨rfl, rfl⟩
      · rename_i h1 h2 h3
        rw [if_neg h1, if_neg h2, if_neg h3] at h
        exact absurd rfl h
theorem num_fault {r : Rd} {n : Int} (h : (num r n).2.E ≠ 0) : (num r n).1 = 0 ∧ (num r n).2.S = r.S := by
  unfold num at h ⊢
  split
  · exact ⟨rfl, rfl⟩
  · rename_i h1
    rw [if_neg h1] at h
    obtain ⟨q1, q2⟩ := take_fault h
    exact ⟨by simp only; rw [q1]; rfl, q2⟩
theorem num2_back {r : Rd} (h0 : r.E = 0) (h : (num r 2).2.E = 0) : r.S = Wd.le (num r 2).1 2 ++ (num r 2).2.S ∧ (num r 2).1 < 65536 := by
  unfold num at h ⊢
  rw [if_neg (by omega)] at h ⊢
  obtain ⟨h1, h2, h3⟩ := take_back h0 h
  rw [h3]
  simp only
  have hl : (r.S.take (2 : Int).toNat).length = 2 := by rw [List.length_take]; show min 2 _ = 2; omega
  have h4 := Wd.le_unle (r.S.take (2 : Int).toNat)
  have h5 := Wd.unle_lt (r.S.take (2 : Int).toNat)
  rw [hl] at h4 h5
  rw [h4]
  exact ⟨(List.take_append_drop _ _).symm, by rw [pow2] at h5; exact h5⟩
theorem text_back {r : Rd} (h0 : r.E = 0) (h : (text r).2.E = 0) : r.S = txt (text r).1 ++ (text r).2.S ∧ (text r).1.length ≤ 65535 := by
  unfold text at h ⊢
  by_cases h1 : (num r 2).2.E = 0
  · rw [if_neg (by simp [h1])] at h ⊢
    by_cases h2 : (take (num r 2).2 (num r 2).1).2.E = 0
    · rw [if_neg (by simp [h2])]
      obtain ⟨e1, e2⟩ := num2_back h0 h1
      obtain ⟨q1, q2, q3⟩ := take_back h1 h2
      rw [q3]
      simp only [Int.toNat_natCast]
      have hl : ((num r 2).2.S.take (num r 2).1).length = (num r 2).1 := by rw [List.length_take]; omega
      refine ⟨?_, by rw [hl]; omega⟩
      unfold txt
      rw [hl, List.append_assoc, List.take_append_drop]
      exact e1
    · rw [if_pos h2] at h; exact absurd h h2
  · rw [if_pos h1] at h; exact absurd h h1
theorem textsN_back (n : Nat) : ∀ {r : Rd}, r.E = 0 → (textsN n r).2.E = 0 → r.S = cat (textsN n r).1 ++ (textsN n r).2.S ∧ okAll (textsN n r).1 = true ∧ (textsN n r).1.length = n := by
  induction n with
  | zero => intro r _ _; exact ⟨rfl, rfl, rfl⟩
  | succ n ih =>
    intro r h0 h
    rw [textsN] at h ⊢
    by_cases h1 : (text r).2.E = 0
    · rw [if_neg (by simp [h1])] at h ⊢
      obtain ⟨q1, q2⟩ := text_back h0 h1
      obtain ⟨q3, q4, q5⟩ := ih h1 h
      refine ⟨?_, ?_, ?_⟩
      · simp only [cat, List.map_cons, List.flatten_cons, List.append_assoc]
        rw [q1]
        congr 1
      · show ((text r).1 :: _).all _ = true
        rw [List.all_cons, Bool.and_eq_true, decide_eq_true_eq]
        exact ⟨q2, q4⟩
      · simp only [List.length_cons, q5]
    · rw [if_pos h1] at h; exact absurd h h1
theorem texts_back {r : Rd} (h0 : r.E = 0) (h : (texts r).2.E = 0) : r.S = lst (texts r).1 ++ (texts r).2.S ∧ lstE (texts r).1 = 0 := by
  unfold texts at h ⊢
  by_cases h1 : (num r 2).2.E = 0
  · rw [if_neg (by simp [h1])] at h ⊢
    by_cases h2 : 4096 < (num r 2).1
    · rw [if_pos h2] at h; cases h
    · rw [if_neg h2] at h ⊢
      by_cases h3 : (textsN (num r 2).1 (num r 2).2).2.E = 0
      · rw [if_neg (by simp [h3])]
        obtain ⟨e1, e2⟩ := num2_back h0 h1
        obtain ⟨q1, q2, q3⟩ := textsN_back _ h1 h3
        refine ⟨?_, ?_⟩
        · unfold lst
          rw [q3, List.append_assoc, ← q1]
          exact e1
        · unfold lstE
          rw [if_neg (by omega), if_pos q2]
      · rw [if_pos h3] at h; exact absurd h h3
  · rw [if_pos h1] at h; exact absurd h h1
theorem texts_fault {r : Rd} (h : (texts r).2.E ≠ 0) : (texts r).1 = [] ∧ (texts r).2.S = r.S := by
  unfold texts at h ⊢
  by_cases h1 : (num r 2).2.E = 0
  · rw [if_neg (by simp [h1])] at h ⊢
    by_cases h2 : 4096 < (num r 2).1
    · rw [if_pos h2]; exact ⟨rfl, rfl⟩
    · rw [if_neg h2] at h ⊢
      by_cases h3 : (textsN (num r 2).1 (num r 2).2).2.E = 0
      · rw [if_neg (by simp [h3])] at h; exact absurd h3 h
      · rw [if_pos h3]; exact ⟨rfl, rfl⟩
  · rw [if_pos h1]; exact ⟨rfl, (num_fault h1).2⟩
theorem text_fault {r : Rd} (h : (text r).2.E ≠ 0) : (text r).1 = [] ∧ (text r).2.S = r.S := by
  unfold text at h ⊢
  by_cases h1 : (num r 2).2.E = 0
  · rw [if_neg (by simp [h1])] at h ⊢
    by_cases h2 : (take (num r 2).2 (num r 2).1).2.E = 0
    · rw [if_neg (by simp [h2])] at h; exact absurd h2 h
    · rw [if_pos h2]; exact ⟨rfl, rfl⟩
  · rw [if_pos h1]; exact ⟨rfl, (num_fault h1).2⟩
end Go.Proofs.Ytbpdoiikleaidaa.Pk
end

/- The document's Num and Text (package aediculeref07). -/
section
set_option linter.unusedVariables false
namespace Go.Proofs.Ytbpdoiikleaidaa
open Go Go.RowKit

/-- What a call of Num makes. -/
def numS (x n : Int) : ByteArray := tx (Wd.putL x.toNat n)
def numE (x n : Int) : Int := Wd.putE x.toNat n
theorem pow_div (x k : Nat) : (x / 256 ^ k = 0) ↔ ¬ 256 ^ k ≤ x := by
  have h : 0 < 256 ^ k := Nat.pow_pos (by decide)
  rw [Nat.div_eq_zero_iff]
  omega

set_option maxHeartbeats 1000000 in
set_option maxRecDepth 100000 in
theorem rnum_bad (x n : Int) (h : n < 1 ∨ 4 < n) (w : World) : Calls Try.prog 42 #[.int .u32 x, .int .i64 n] w fun e w' => e = .returned (.tuple #[.string (tx []), .int .i64 2]) ∧ Below w.heap.size w w' := by
  rcases h with h | h
  · go_enter Try.func42, Try.ntmps42
    go_wp2
    go_ret2
    exact ⟨rfl, Below.refl _ _⟩
  · have h1 : ¬ n < 1 := by omega
    go_enter Try.func42, Try.ntmps42
    go_wp2
    go_ret2
    exact ⟨rfl, Below.refl _ _⟩

set_option maxHeartbeats 1000000 in
set_option maxRecDepth 100000 in
theorem rnum_good (x n : Int) (h0 : 0 ≤ x) (h1 : x < 4294967296) (hn0 : 1 ≤ n) (hn : n ≤ 4) (w : World) :
    Calls Try.prog 42 #[.int .u32 x, .int .i64 n] w fun e w' => e = .returned (.tuple #[.string (numS x n), .int .i64 (numE x n)]) ∧ Below w.heap.size w w' := by
  obtain ⟨i0, hi, hz0, hz1, hz2⟩ := info_parts infoByte
  have HX := Lib.hid (show ((x.toNat : Nat) : Int) = x from by omega)
  go_enter Try.func42, Try.ntmps42
  go_wp2
  go_loopw [0, 6, 7] (fun t0 sl i wr => ∃ (k : Nat) (A : Int) (z : Value), (k : Int) ≤ n ∧ i = .int .i64 k ∧ t0 = .int .u32 A ∧ z = sl ∧ 0 ≤ A ∧ A < 4294967296 ∧ Hid (((x.toNat / 256 ^ k : Nat) : Int) = A) ∧ Hid (Own w.heap.size (Wd.le x.toNat k) z wr) ∧ Below w.heap.size w wr) (fun _ _ i _ => (n - intOf i).toNat)
  case atStart => exact ⟨0, x, .slice none 0 0, by omega, rfl, rfl, rfl, h0, h1, Lib.hid (by simp; omega), Lib.hid (own_nil _ _), Below.refl _ _⟩
  case round =>
    obtain ⟨k, A, sl, hk, rfl, rfl, rfl, hA0, hA, HA, HO, hb⟩ := hrel
    by_cases hlt : (k : Int) < n
    · have hown : wr.ownsRow w.heap.size 5 1 sl k (Lib.byteCells (Wd.le x.toNat k)) := by have := HO.out; unfold Own at this; rw [Wd.le_length] at this; exact this
      have Hown := Lib.hid hown
      clear hown HO
      have hsz := hb.size
      go_wp2_with (at_builtin; refine wpList_append_own _ rfl _ _ 52 rfl w.heap.size 5 i0 (.int .u8 0) 1 1 Try.underlying52 hi hz0 hz1 hz2 rfl (by decide) _ _ _ rfl (Hown.out.alloc _) ⟨wr.heap.size, 0, none⟩ 1 1 [.int .u8 (A % 256)] rfl rfl ?c1 ?c2 ?c3 ?c4 ?c5 ?_)
      case c1 => exact new_one _ _
      case c2 => intro u hu; simp at hu; subst hu; rfl
      case c3 => unfold maxLen; omega
      case c4 => omega
      case c5 => simp; omega
      intro z' w1 hown' hgrow _
      have hb1 := app_below hb hsz Hown.out hgrow
      have HO1 : Hid (Own w.heap.size (Wd.le x.toNat (k + 1)) z' w1) := by
        have hA1 := HA.out
        refine Lib.hid (own_one (x := UInt8.ofNat (x.toNat / 256 ^ k)) (y := A % 256) ?_ ?_)
        · rw [Wd.ofNat_toNat, ← hA1]; omega
        · rw [Wd.le_length]; exact hown'
      have HA1 : Hid (((x.toNat / 256 ^ (k + 1) : Nat) : Int) = A / 256) := by
        have hA1 := HA.out
        refine Lib.hid ?_
        rw [← hA1, Nat.pow_succ, ← Nat.div_div_eq_div_mul]; omega
      clear hown' hgrow Hown HA hb hsz
      go_wp2
      go_roundw
      case rel => exact ⟨k + 1, A / 256, z', by omega, by go_num, vi' (by omega), rfl, by omega, by omega, HA1, HO1, hb1⟩
      case measure => simp [intOf]; omega
    · have hkn : n.toNat = k := by omega
      have hpd := pow_div x.toNat k
      have hA1 := HA.out
      by_cases hz : A = 0
      · have e1 : numE x n = 0 := by unfold numE Wd.putE; rw [if_neg (by omega), hkn, if_neg (hpd.1 (by omega))]
        have e2 : numS x n = tx (Wd.le x.toNat k) := by
          have : Wd.putE x.toNat n = 0 := e1
          unfold numS Wd.putL; rw [this, if_pos rfl, hkn]
        have hconv := own_text HO.out
        obtain ⟨a', n', c', hsl⟩ := own_slice HO.out
        have H1 := Lib.hid e1
        have H2 := Lib.hid e2
        have hzb : (A != 0) = false := by simp [hz]
        clear e1 e2 hkn hpd hA1 hz HA HO
        subst hsl
        go_wp2
        go_ret2
        exact ⟨by rw [H1.out, H2.out]; rfl, hb⟩
      · have e1 : numE x n = 5 := by unfold numE Wd.putE; rw [if_neg (by omega), hkn, if_pos (by have := mt hpd.2; omega)]
        have e2 : numS x n = tx [] := by
          have : Wd.putE x.toNat n = 5 := e1
          unfold numS Wd.putL; rw [this, if_neg (by decide)]
        have H1 := Lib.hid e1
        have H2 := Lib.hid e2
        have hzb : (A != 0) = true := by rw [bne_iff_ne]; exact hz
        clear e1 e2 hkn hpd hA1 hz HA HO
        go_wp2
        go_ret2
        exact ⟨by rw [H1.out, H2.out]; rfl, hb⟩
theorem rnum_any (x n : Int) (h0 : 0 ≤ x) (h1 : x < 4294967296) (w : World) :
    Calls Try.prog 42 #[.int .u32 x, .int .i64 n] w fun e w' => e = .returned (.tuple #[.string (numS x n), .int .i64 (numE x n)]) ∧ Below w.heap.size w w' := by
  by_cases h : n < 1 ∨ 4 < n
  · have e1 : numE x n = 2 := by unfold numE Wd.putE; rw [if_pos h]
    have e2 : numS x n = tx [] := by
      have : Wd.putE x.toNat n = 2 := e1
      unfold numS Wd.putL; rw [this, if_neg (by decide)]
    rw [e1, e2]
    exact rnum_bad x n h w
  · exact rnum_good x n h0 h1 (by omega) (by omega) w

/-- string([]byte{..}): a text of the bytes that were laid into a new array. -/
theorem text_new (W : World) (l : List UInt8) (cs : List Value) (hcs : cs = Lib.byteCells l) (n : Nat) (hn : n = l.length) :
    (convert 52 9 (.slice (some ⟨W.heap.size, 0, none⟩) n n)).run Try.prog (W.alloc (.cells cs.toArray 5)) = .ok (.string (tx l)) (W.alloc (.cells cs.toArray 5)) := by
  subst hcs hn
  have hg : (W.alloc (.cells (Lib.byteCells l).toArray 5)).heap[W.heap.size]? = some (.cells (Lib.byteCells l).toArray 5 (0, 0)) := heap_alloc_new W _
  exact run_convert_bytes_back (P := Try.prog) _ 52 9 5 ⟨W.heap.size, 0, none⟩ l.length l Try.underlying52 Try.underlying5 Try.underlying9 (Lib.bytes_of_row hg (by rw [List.take_of_length_le (by rw [Lib.byteCells_length]; exact Nat.le_refl _)]))
theorem le2_cells (n : Nat) (h : n < 65536) : [Value.int .u8 ((n : Int) % 256), Value.int .u8 ((n : Int) / 256)] = Lib.byteCells (Wd.le n 2) := by
  have e1 : (n : Int) % 256 = ((UInt8.ofNat (n / 256 ^ 0)).toNat : Int) := by rw [Wd.ofNat_toNat]; simp
  have e2 : (n : Int) / 256 = ((UInt8.ofNat (n / 256 ^ 1)).toNat : Int) := by rw [Wd.ofNat_toNat]; simp; omega
  rw [e1, e2]
  rfl
def txtS (s : ByteArray) : ByteArray := if Pk.txtE (by' s) = 0 then tx (Pk.txt (by' s)) else tx []
set_option maxHeartbeats 1000000 in
set_option maxRecDepth 100000 in
theorem rtext_any (s : ByteArray) (hs : s.size ≤ 140737488355328) (w : World) :
    Calls Try.prog 41 #[.string s] w fun e w' => e = .returned (.tuple #[.string (txtS s), .int .i64 (Pk.txtE (by' s))]) ∧ Below w.heap.size w w' := by
  by_cases h : 65535 < s.size
  · have e1 : Pk.txtE (by' s) = 5 := by unfold Pk.txtE; rw [by_length, if_pos h]
    have e2 : txtS s = tx [] := by unfold txtS; rw [e1, if_neg (by decide)]
    rw [e1, e2]
    have h' : (65535 : Int) < (s.size : Int) := by omega
    clear e1 e2 h
    go_enter Try.func41, Try.ntmps41
    go_wp2
    go_ret2
    exact ⟨rfl, Below.refl _ _⟩
  · have e1 : Pk.txtE (by' s) = 0 := by unfold Pk.txtE; rw [by_length, if_neg h]
    have e2 : txtS s = tx (Wd.le s.size 2) ++ s := by
      unfold txtS
      rw [e1, if_pos rfl]
      have : s = tx (by' s) := (tx_by s).symm
      conv => rhs; rw [this]
      rw [tx_append, tx_size]
      rfl
    rw [e1, e2]
    have hcv := text_new w (Wd.le s.size 2) [.int .u8 ((s.size : Int) % 256), .int .u8 ((s.size : Int) / 256)] (le2_cells s.size (by omega)) 2 (by rw [Wd.le_length])
    have h' : (s.size : Int) ≤ 65535 := by omega
    have hz : (tx (Wd.le s.size 2)).size = 2 := by rw [tx_size, Wd.le_length]
    have hb : Below w.heap.size w (w.alloc (.cells [.int .u8 ((s.size : Int) % 256), .int .u8 ((s.size : Int) / 256)].toArray 5)) := (Below.refl _ _).alloc (Nat.le_refl _) _
    have HB := Lib.hid hb
    obtain ⟨T, hT⟩ : ∃ T, T = tx (Wd.le s.size 2) := ⟨_, rfl⟩
    rw [← hT] at hcv hz ⊢
    have hzi : (T.size : Int) = 2 := by omega
    clear e1 e2 h hT hb hz hs
    go_enter Try.func41, Try.ntmps41
    go_wp2
    go_ret2
    exact ⟨rfl, HB.out⟩
end Go.Proofs.Ytbpdoiikleaidaa
end
