/- The laws of P11.3, for the values that the functions answer with: the union is least, and neither the order nor the number of notes matters. -/
import Derived.Test.YtmfebmiigkmkbaaDR
import Derived.Test.YtmfebmiigkmkbaaED
set_option linter.unusedVariables false
namespace Go.Proofs.Ytmfebmiigkmkbaa
open Go Go.RowKit Oj Dm

theorem full_fine {m : Mf} (h : Fine m) : Fine (full m).1 ∧ (full m).1.ports.length ≤ 16 := by
  unfold full
  split
  · next h1 => exact ⟨h, h1⟩
  · exact ⟨fine_nought, by decide⟩
theorem full_ok {m a : Mf} (h : full m = (a, 0)) : m = a ∧ m.ports.length ≤ 16 := by
  unfold full at h
  split at h
  · next h1 => exact ⟨(Prod.mk.inj h).1, h1⟩
  · exact absurd (Prod.mk.inj h).2 (by decide)
theorem good_of {l : List Nt} (hf : ntsFit l) (h : allNotes l = true) : Dm.Good l := fun n hn => by
  obtain ⟨j, hj, rfl⟩ := (mem_at Nt.nought).1 hn
  exact ⟨allN_at h hj, (hf.2 j hj).2.1.1⟩
theorem all_iff {l : List Nt} : allNotes l = true ↔ ∀ n ∈ l, noteOk n = true := by
  constructor
  · intro h n hn
    obtain ⟨j, hj, rfl⟩ := (mem_at Nt.nought).1 hn
    exact allN_at h hj
  · intro h
    exact allN_true fun j hj => h _ ((mem_at Nt.nought).2 ⟨j, hj, rfl⟩)
theorem fine_mf {m : Mf} (h : Fine m ∧ m.ports.length ≤ 16) : mfFits m := fine_fits h.1 (by have := ext16 h.1; omega) (by omega)
theorem of_fine {l : List Nt} (hf : ntsFit l) : Fine (ofR l).1 ∧ (ofR l).1.ports.length ≤ 16 := by
  unfold ofR
  split
  · next h => exact full_fine (fine_gat (good_of hf h))
  · exact ⟨fine_nought, by decide⟩
theorem of_fits {l : List Nt} (hf : ntsFit l) : mfFits (ofR l).1 := fine_mf (of_fine hf)
theorem of_zero {l : List Nt} {a : Mf} (h : ofR l = (a, 0)) : allNotes l = true ∧ gat l = a ∧ (gat l).ports.length ≤ 16 := by
  unfold ofR at h
  split at h
  · next h1 => exact ⟨h1, full_ok h⟩
  · exact absurd (Prod.mk.inj h).2 (by decide)
theorem zero_of {l : List Nt} (h : allNotes l = true) (h2 : (gat l).ports.length ≤ 16) : ofR l = (gat l, 0) := by
  unfold ofR full
  rw [if_pos h, if_pos h2]
theorem mfs_fine {l : List Mf} (hf : mfsFit l) (h : allMfs l = true) {j : Nat} (hj : j < l.length) : Fine (l.getD j Mf.nought) ∧ (l.getD j Mf.nought).ports.length ≤ 16 := (hf.2 j hj).fine (allN_at h hj)
theorem flat_good {l : List Mf} (h : ∀ m ∈ l, Fine m) : Dm.Good (l.flatMap notesOf) := fun n hn => by
  obtain ⟨m, hm, hn⟩ := List.mem_flatMap.1 hn
  exact good_notes (h m hm) n hn
theorem mfs_mem {l : List Mf} (hf : mfsFit l) (h : allMfs l = true) : ∀ m ∈ l, Fine m := fun m hm => by
  obtain ⟨j, hj, rfl⟩ := (mem_at Mf.nought).1 hm
  exact (mfs_fine hf h hj).1
theorem union_fine {l : List Mf} (hf : mfsFit l) : Fine (unionR l).1 ∧ (unionR l).1.ports.length ≤ 16 := by
  unfold unionR
  split
  · next h => exact full_fine (fine_gat (flat_good (mfs_mem hf h)))
  · exact ⟨fine_nought, by decide⟩
theorem union_fits {l : List Mf} (hf : mfsFit l) : mfFits (unionR l).1 := fine_mf (union_fine hf)
theorem union_zero {l : List Mf} {a : Mf} (h : unionR l = (a, 0)) : allMfs l = true ∧ gat (l.flatMap notesOf) = a ∧ (gat (l.flatMap notesOf)).ports.length ≤ 16 := by
  unfold unionR at h
  split at h
  · next h1 => exact ⟨h1, full_ok h⟩
  · exact absurd (Prod.mk.inj h).2 (by decide)
theorem covers_iff {m n : Mf} : coversR m n = true ↔ mfOk m = true ∧ mfOk n = true ∧ ∀ x ∈ notesOf n, cov m x = true := by
  unfold coversR
  rw [Bool.and_eq_true, Bool.and_eq_true, List.all_eq_true, and_assoc]

/-- A union covers each. -/
theorem least_each {l : List Mf} {u : Mf} (hf : mfsFit l) (h : unionR l = (u, 0)) : mfOk u = true ∧ ∀ k, k < l.length → coversR u (l.getD k Mf.nought) = true := by
  obtain ⟨h1, h2, h3⟩ := union_zero h
  have hg := flat_good (mfs_mem hf h1)
  have hu : Fine u := by rw [← h2]; exact fine_gat hg
  have hok : mfOk u = true := fine_ok hu (by rw [← h2]; exact h3)
  refine ⟨hok, fun k hk => covers_iff.2 ⟨hok, allN_at h1 hk, fun x hx => ?_⟩⟩
  have hm : x ∈ l.flatMap notesOf := List.mem_flatMap.2 ⟨_, (mem_at Mf.nought).2 ⟨k, hk, rfl⟩, hx⟩
  have hkx := hg.kd x hm
  rw [← h2]
  exact (cov_gat hkx hg.kd).2 (.inr ⟨x, hm, cov1_self hkx⟩)
/-- It is the least. -/
theorem least_all {l : List Mf} {u x : Mf} (hf : mfsFit l) (hx : mfFits x) (h : unionR l = (u, 0)) (ho : mfOk x = true) : (∀ k, k < l.length → coversR x (l.getD k Mf.nought) = true) ↔ coversR x u = true := by
  obtain ⟨h1, h2, h3⟩ := union_zero h
  have hg := flat_good (mfs_mem hf h1)
  have hu : Fine u := by rw [← h2]; exact fine_gat hg
  have hok : mfOk u = true := fine_ok hu (by rw [← h2]; exact h3)
  have hxf := (hx.fine ho).1
  constructor
  · intro hc
    refine covers_iff.2 ⟨ho, hok, fun n hn => ?_⟩
    have hkn := (good_notes hu).kd n hn
    have hcu := cov_own hu hn
    rw [← h2, cov_gat hkn hg.kd] at hcu
    rcases hcu with ht | ⟨n', hm, hc1⟩
    · exact cov_triv hxf ht
    · obtain ⟨m, hml, hnm⟩ := List.mem_flatMap.1 hm
      obtain ⟨k, hk, rfl⟩ := (mem_at Mf.nought).1 hml
      exact cov_trans ((covers_iff.1 (hc k hk)).2.2 n' hnm) hc1
  · intro hc k hk
    refine covers_iff.2 ⟨ho, allN_at h1 hk, fun n hn => ?_⟩
    have hm : n ∈ l.flatMap notesOf := List.mem_flatMap.2 ⟨_, (mem_at Mf.nought).2 ⟨k, hk, rfl⟩, hn⟩
    have hkn := hg.kd n hm
    have hcu : cov u n = true := by rw [← h2]; exact (cov_gat hkn hg.kd).2 (.inr ⟨n, hm, cov1_self hkn⟩)
    rcases cov_by hkn hcu with ht | ⟨n', hn', hc1⟩
    · exact cov_triv hxf ht
    · exact cov_trans ((covers_iff.1 hc).2.2 n' hn') hc1

/-- Neither order nor number. -/
theorem of_same {a b : List Nt} (ha : ntsFit a) (hb : ntsFit b) (h : ∀ n, n ∈ a ↔ n ∈ b) : ofR a = ofR b := by
  by_cases hc : allNotes a = true
  · have hc2 : allNotes b = true := all_iff.2 fun n hn => all_iff.1 hc n ((h n).2 hn)
    unfold ofR
    rw [if_pos hc, if_pos hc2, gat_same (good_of ha hc) (good_of hb hc2) h]
  · have hc2 : ¬ allNotes b = true := fun e => hc (all_iff.2 fun n hn => all_iff.1 e n ((h n).1 hn))
    unfold ofR
    rw [if_neg hc, if_neg hc2]
theorem fit_sub {a b : List Nt} (hb : ntsFit b) (hl : a.length * 12 ≤ 140737488355328) (h : ∀ n ∈ a, n ∈ b) : ntsFit a := ⟨hl, fun j hj => by
  obtain ⟨i, hi, he⟩ := (mem_at Nt.nought).1 (h _ ((mem_at Nt.nought).2 ⟨j, hj, rfl⟩))
  rw [← he]
  exact hb.2 i hi⟩
theorem of_part {l p q : List Nt} {a : Mf} (hl : ntsFit l) (h : ofR l = (a, 0)) (hm : ∀ n, n ∈ p ++ q ↔ n ∈ l) (hp : (p ++ q).length * 12 ≤ 140737488355328) : ofR p = (gat p, 0) := by
  obtain ⟨h1, h2, h3⟩ := of_zero h
  have hs := gat_same (good_of (fit_sub hl hp fun n hn => (hm n).1 hn) (all_iff.2 fun n hn => all_iff.1 h1 n ((hm n).1 hn))) (good_of hl h1) hm
  refine zero_of (all_iff.2 fun n hn => all_iff.1 h1 n ((hm n).1 (List.mem_append.2 (.inl hn)))) ?_
  have := len_prefix p q
  rw [hs] at this
  omega
theorem of_notes {l : List Nt} {a : Mf} (hl : ntsFit l) (h : ofR l = (a, 0)) : ofR (notesR a) = (a, 0) := by
  obtain ⟨h1, h2, h3⟩ := of_zero h
  have ha : Fine a := by rw [← h2]; exact fine_gat (good_of hl h1)
  have hok : mfOk a = true := fine_ok ha (by rw [← h2]; exact h3)
  unfold notesR
  rw [if_pos hok]
  have hg := gat_notes ha
  rw [zero_of (good_all (good_notes ha)) (by rw [hg, ← h2]; exact h3), hg]
theorem of_union {l p q : List Nt} {a c d : Mf} (hl : ntsFit l) (hpf : ntsFit p) (hqf : ntsFit q) (h : ofR l = (a, 0)) (hc : ofR p = (c, 0)) (hd : ofR q = (d, 0)) (hp : ∀ n ∈ p, n ∈ l) (hq : ∀ n ∈ q, n ∈ l) : unionR [d, c, a] = (a, 0) := by
  obtain ⟨h1, h2, h3⟩ := of_zero h
  obtain ⟨p1, p2, p3⟩ := of_zero hc
  obtain ⟨q1, q2, q3⟩ := of_zero hd
  have gl := good_of hl h1
  have gp := good_of hpf p1
  have gq := good_of hqf q1
  have fa : Fine a := by rw [← h2]; exact fine_gat gl
  have fc : Fine c := by rw [← p2]; exact fine_gat gp
  have fd : Fine d := by rw [← q2]; exact fine_gat gq
  have oa : mfOk a = true := fine_ok fa (by rw [← h2]; exact h3)
  have oc : mfOk c = true := fine_ok fc (by rw [← p2]; exact p3)
  have od : mfOk d = true := fine_ok fd (by rw [← q2]; exact q3)
  have hall : allMfs [d, c, a] = true := allN_true fun j hj => by
    have : j = 0 ∨ j = 1 ∨ j = 2 := by simp at hj; omega
    rcases this with rfl | rfl | rfl
    · exact od
    · exact oc
    · exact oa
  have hg := flat_good (l := [d, c, a]) (fun m hm => by
    simp only [List.mem_cons, List.not_mem_nil, or_false] at hm
    rcases hm with rfl | rfl | rfl
    · exact fd
    · exact fc
    · exact fa)
  have hlift : ∀ (r : List Nt) (e : Mf), Fine e → gat r = e → Dm.Good r → (∀ n ∈ r, n ∈ l) → ∀ n ∈ notesOf e, cov a n = true := fun r e fe he gr hr n hn => by
    have hkn := (good_notes fe).kd n hn
    have hce := cov_own fe hn
    rw [← he, cov_gat hkn gr.kd] at hce
    rcases hce with ht | ⟨n', hm, hc1⟩
    · exact cov_triv fa ht
    · rw [← h2]
      exact (cov_gat hkn gl.kd).2 (.inr ⟨n', hr n' hm, hc1⟩)
  have hgat : gat ([d, c, a].flatMap notesOf) = a := by
    refine fine_ext (fine_gat hg) fa fun x hk _ => ?_
    rw [cov_gat hk hg.kd]
    constructor
    · rintro (ht | ⟨n, hn, hc1⟩)
      · exact cov_triv fa ht
      · obtain ⟨m, hm, hnm⟩ := List.mem_flatMap.1 hn
        simp only [List.mem_cons, List.not_mem_nil, or_false] at hm
        rcases hm with rfl | rfl | rfl
        · exact cov_trans (hlift q _ fd q2 gq hq n hnm) hc1
        · exact cov_trans (hlift p _ fc p2 gp hp n hnm) hc1
        · exact cov_trans (cov_own fa hnm) hc1
    · intro hc1
      rcases cov_by hk hc1 with ht | ⟨n, hn, hcn⟩
      · exact .inl ht
      · exact .inr ⟨n, List.mem_flatMap.2 ⟨a, by simp, hn⟩, hcn⟩
  unfold unionR full
  rw [if_pos hall, hgat, if_pos (by rw [← h2]; exact h3)]
end Go.Proofs.Ytmfebmiigkmkbaa
