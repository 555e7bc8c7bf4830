/- A text of one's own bytes; two pages beside each other; the statements' function may. -/
import Derived.Test.YtfickpjecehboaaSL
import Derived.Lib.BufferRead
import Derived.Laws.OwnMore
import Derived.Deep.AppendLies
set_option linter.unusedVariables false
namespace Go.Proofs.Ytfickpjecehboaa
open Go.RowKit Go.Maps

theorem own_text {B : Nat} {l : List UInt8} {v : Value} {w : World} (h : w.ownsRow B 5 1 v l.length (Lib.byteCells l)) : (convert 52 9 v).run Try.prog w = .ok (.string ⟨l.toArray⟩) w := by
  rcases h.2 with ⟨rfl, h0⟩ | ⟨g, cap, cur, rfl, hBg, hg, hnc, hcm, hcs, htk⟩
  · have : l = [] := by simpa using h0
    subst this
    exact Lib.run_convert_nil_bytes w 52 9 5 0 Try.underlying52 Try.underlying5 Try.underlying9
  · exact run_convert_bytes_back (P := Try.prog) w 52 9 5 ⟨g, 0, none⟩ cap l Try.underlying52 Try.underlying5 Try.underlying9 (Lib.bytes_of_row hg (by simpa using htk))
theorem zeros_row {B n : Nat} {v : Value} {w : World} (h : w.ownsRow B 5 1 v n (madeCells (Value.int .u8 0).cells (n * 1)).toList) : w.ownsRow B 5 1 v (List.replicate n (0 : UInt8)).length (Lib.byteCells (List.replicate n (0 : UInt8))) := by
  have e : (madeCells (Value.int .u8 0).cells (n * 1)).toList = Lib.byteCells (List.replicate n 0) := by
    rw [show Lib.byteCells (List.replicate n 0) = List.replicate n (Value.int .u8 0) by simp [Lib.byteCells], List.eq_replicate_iff]
    refine ⟨by simp [madeCells], fun b hb => ?_⟩
    simp only [madeCells, Array.toList_map, List.mem_map] at hb
    obtain ⟨x, _, rfl⟩ := hb
    simp [Value.cells, Nat.mod_one]
  rw [e] at h
  simpa using h

/-- Two pages beside each other. -/
def twoP (p q : Nat) : As := upd (upd (fun _ => none) 4 (some (newPg p))) 5 (some (newPg q))
def mayB (p q addr en need : Nat) : Bool := ((decide (1280 ≤ addr) || (p &&& need) == need) && (decide (en ≤ 1280) || (q &&& need) == need)) && decide (en ≤ 1536)
theorem perm_new (p : Nat) (h : p < 8) : ((newPg p) 256).toNat = p := by
  unfold newPg
  rw [if_pos rfl]
  simp
  omega
theorem ok4 (p q need : Nat) (h : p < 8) : okPg (twoP p q) need 4 = ((p &&& need) == need) := by
  have : twoP p q 4 = some (newPg p) := rfl
  unfold okPg
  rw [this]
  show met need (newPg p) = _
  unfold met
  rw [perm_new p h]
theorem ok5 (p q need : Nat) (h : q < 8) : okPg (twoP p q) need 5 = ((q &&& need) == need) := by
  have : twoP p q 5 = some (newPg q) := rfl
  unfold okPg
  rw [this]
  show met need (newPg q) = _
  unfold met
  rw [perm_new q h]
theorem ok6 (p q need : Nat) : okPg (twoP p q) need 6 = false := rfl
theorem may_is (p q addr k need : Nat) (hp : p < 8) (hq : q < 8) (h1 : 1024 ≤ addr) (h2 : addr < 1536) (hk : 1 ≤ k) : okAll (twoP p q) need addr k = mayB p q addr (addr + k) need := by
  unfold mayB
  have e4 := ok4 p q need hp
  have e5 := ok5 p q need hq
  generalize (p &&& need == need) = P at *
  generalize (q &&& need == need) = Q at *
  by_cases c1 : 1280 ≤ addr
  · by_cases c2 : addr + k ≤ 1536
    · cases Q
      · rw [okAll_page (twoP p q) need addr k 5 (by omega) (by omega) (by omega) e5]
        simp
        omega
      · rw [okAll_pages (twoP p q) need addr k (fun i h3 h4 => by obtain rfl : i = 5 := by omega
                                                                  exact e5)]
        simp [c1, c2]
    · rw [okAll_page (twoP p q) need addr k 6 (by omega) (by omega) (by omega) (ok6 p q need)]
      simp
      omega
  · cases P
    · rw [okAll_page (twoP p q) need addr k 4 (by omega) (by omega) (by omega) e4]
      simp
      omega
    · by_cases c3 : addr + k ≤ 1280
      · rw [okAll_pages (twoP p q) need addr k (fun i h3 h4 => by obtain rfl : i = 4 := by omega
                                                                  exact e4)]
        simp [c3]
        omega
      · cases Q
        · rw [okAll_page (twoP p q) need addr k 5 (by omega) (by omega) (by omega) e5]
          simp
          omega
        · by_cases c2 : addr + k ≤ 1536
          · rw [okAll_pages (twoP p q) need addr k (fun i h3 h4 => by
              have : i = 4 ∨ i = 5 := by omega
              rcases this with rfl | rfl
              · exact e4
              · exact e5)]
            simp [c2]
          · rw [okAll_page (twoP p q) need addr k 6 (by omega) (by omega) (by omega) (ok6 p q need)]
            simp
            omega

theorem bits_nat (p need : Nat) (hp : p < 8) (hn : need < 8) : (bits BinOp.and IntKind.u8 (p : Int) (need : Int) == (need : Int)) = ((p &&& need) == need) := by
  have h := bits_and ⟨p, by omega⟩ ⟨need, hn⟩
  simp only at h
  rw [h, Bool.eq_iff_iff, beq_iff_eq, beq_iff_eq]
  exact Int.ofNat_inj
set_option maxHeartbeats 1000000 in
set_option maxRecDepth 100000 in
theorem lmay_any (p q addr en need : Nat) (hp : p < 8) (hq : q < 8) (hn : need < 8) (w : World) :
    Calls Try.prog 24 #[.int .u8 (p : Int), .int .u8 (q : Int), .int .u32 (addr : Int), .int .u32 (en : Int), .int .u8 (need : Int)] w fun e w' => e = .returned (.bool (mayB p q addr en need)) ∧ w' = w := by
  have b1 := bits_nat p need hp hn
  have b2 := bits_nat q need hq hn
  obtain ⟨P, hP⟩ : ∃ P, P = (p &&& need == need) := ⟨_, rfl⟩
  obtain ⟨Q, hQ⟩ : ∃ Q, Q = (q &&& need == need) := ⟨_, rfl⟩
  have hm : mayB p q addr en need = (((decide (1280 ≤ addr) || P) && (decide (en ≤ 1280) || Q)) && decide (en ≤ 1536)) := by rw [hP, hQ]; rfl
  rw [← hP] at b1
  rw [← hQ] at b2
  rw [hm]
  clear hm hP hQ hp hq hn
  obtain ⟨C1, h1⟩ : ∃ C, C = decide (1280 ≤ addr) := ⟨_, rfl⟩
  obtain ⟨C2, h2⟩ : ∃ C, C = decide (en ≤ 1280) := ⟨_, rfl⟩
  obtain ⟨C3, h3⟩ : ∃ C, C = decide (en ≤ 1536) := ⟨_, rfl⟩
  have d1 : decide ((1280 : Int) ≤ (addr : Int)) = C1 := by rw [h1, decide_eq_decide]; omega
  have d2 : decide ((en : Int) ≤ (1280 : Int)) = C2 := by rw [h2, decide_eq_decide]; omega
  have d3 : decide ((en : Int) ≤ (1536 : Int)) = C3 := by rw [h3, decide_eq_decide]; omega
  rw [← h1, ← h2, ← h3]
  clear h1 h2 h3
  cases C1 <;> cases C2 <;> cases C3 <;> cases P <;> cases Q <;>
  · go_enter Try.func24, Try.ntmps24
    go_wp2
    go_ret
    exact ⟨rfl, rfl⟩
end Go.Proofs.Ytfickpjecehboaa
