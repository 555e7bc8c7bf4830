/- Some texts of one proof, one behind the other; each has its own head below. -/
import Derived.Test.YtlnnhgmkibjgmaaDoorX03
import Derived.Test.YtlnnhgmkibjgmaaDoorX10
import Derived.Test.YtlnnhgmkibjgmaaDoorX02
import Derived.Test.YtlnnhgmkibjgmaaDoorX13
import Derived.Test.YtlnnhgmkibjgmaaDoorX16
import Derived.Laws.AppendOwn
import Derived.Laws.AppendOwnNone
import Derived.Laws.OwnMore
import Derived.Deep.MidRow
import Derived.Deep.AppendLies
import Derived.LoopTactic
/- Slices of elements of the call's own; append of a whole slice onto nothing. -/
section
set_option linter.unusedVariables false
namespace Go.Proofs.YtlnnhgmkibjgmaaDoor
open Go Go.RowKit Oj

/-- The cells of n elements, one behind the other. -/
def flat (cs : Nat → List Value) : Nat → List Value
  | 0 => []
  | n + 1 => flat cs n ++ cs n
theorem flat_length {cs : Nat → List Value} {z : Nat} : ∀ (n : Nat), (∀ j, j < n → (cs j).length = z) → (flat cs n).length = n * z
  | 0, _ => by simp [flat]
  | n + 1, h => by
    rw [flat, List.length_append, flat_length n (fun j hj => h j (by omega)), h n (by omega), Nat.succ_mul]
theorem flat_at {cs : Nat → List Value} {z : Nat} : ∀ (n : Nat), (∀ j, j < n → (cs j).length = z) → ∀ (m : Nat) u, (flat cs n)[m]? = some u → ∃ j i, j < n ∧ m = j * z + i ∧ i < z ∧ (cs j)[i]? = some u
  | 0, _, m, u, h => by simp [flat] at h
  | n + 1, hz, m, u, h => by
    have hl := flat_length n (fun j hj => hz j (by omega))
    rw [flat] at h
    rcases Nat.lt_or_ge m (n * z) with hm | hm
    · rw [List.getElem?_append_left (by omega)] at h
      obtain ⟨j, i, h1, h2⟩ := flat_at n (fun j hj => hz j (by omega)) m u h
      exact ⟨j, i, by omega, h2⟩
    · rw [List.getElem?_append_right (by omega), hl] at h
      have hi := (List.getElem?_eq_some_iff.1 h).1
      rw [hz n (by omega)] at hi
      exact ⟨n, m - n * z, by omega, by omega, hi, h⟩
theorem flat_get {cs : Nat → List Value} {z : Nat} : ∀ (n : Nat), (∀ j, j < n → (cs j).length = z) → ∀ j i, j < n → i < z → (flat cs n)[j * z + i]? = (cs j)[i]?
  | 0, _, j, i, h, _ => absurd h (by omega)
  | n + 1, hz, j, i, hj, hi => by
    have hl := flat_length n (fun j hj => hz j (by omega))
    rw [flat]
    rcases Nat.lt_or_ge j n with h | h
    · have h3 : j * z + i < n * z := by
        have : (j + 1) * z ≤ n * z := Nat.mul_le_mul_right z h
        rw [Nat.succ_mul] at this
        omega
      rw [List.getElem?_append_left (by omega)]
      exact flat_get n (fun j hj => hz j (by omega)) j i h hi
    · obtain rfl : j = n := by omega
      rw [List.getElem?_append_right (by omega), hl, Nat.add_sub_cancel_left]
theorem flat_congr {cs ds : Nat → List Value} : ∀ (n : Nat), (∀ j, j < n → cs j = ds j) → flat cs n = flat ds n
  | 0, _ => rfl
  | n + 1, h => by rw [flat, flat, flat_congr n (fun j hj => h j (by omega)), h n (by omega)]
theorem flat_all {cs : Nat → List Value} {p : Value → Prop} : ∀ (n : Nat), (∀ j, j < n → ∀ u ∈ cs j, p u) → ∀ u ∈ flat cs n, p u
  | 0, _, u, hu => by simp [flat] at hu
  | n + 1, h, u, hu => by
    rw [flat, List.mem_append] at hu
    rcases hu with hu | hu
    · exact flat_all n (fun j hj => h j (by omega)) u hu
    · exact h n (by omega) u hu

section
variable {P : Program} {w w' : World} {B : Nat} {e : TypeId} {z : Nat} {v : Value} {n : Nat} {cs : Nat → List Value}
/-- An own row of elements reads as these. -/
theorem slC_of_row (hz : ∀ j, j < n → (cs j).length = z) (h : w.ownsRow B e z v n (flat cs n)) : SlC w v n z cs := by
  rcases h.2 with ⟨rfl, h0⟩ | ⟨k, cap, cur, rfl, hBk, hk, hnc, hcm, hcs, htk⟩
  · subst h0
    exact ⟨none, 0, rfl, fun h => absurd h (by omega)⟩
  · refine ⟨_, _, rfl, fun _ => ⟨k, 0, rfl, (Array.getElem?_eq_some_iff.1 hk).1, fun j hj i u hu => ?_⟩⟩
    have hi : i < z := by rw [← hz j hj]; exact (List.getElem?_eq_some_iff.1 hu).1
    have hm : j * z + i < n * z := by
      have : (j + 1) * z ≤ n * z := Nat.mul_le_mul_right z hj
      rw [Nat.succ_mul] at this
      omega
    rw [cell_of_row _ _ _ _ _ _ hk, Nat.zero_add, ← Array.getElem?_toList]
    have h2 : cur.toList[j * z + i]? = (cur.toList.take (n * z))[j * z + i]? := by rw [List.getElem?_take_of_lt hm]
    rw [h2, htk, flat_get n hz j i hj hi]
    exact hu
/-- Own rows of two element types lie apart. -/
theorem row_apart {B' z' n' : Nat} {e' : TypeId} {v' : Value} {xs xs' : List Value} (h : w.ownsRow B e z v n xs) (h' : w.ownsRow B' e' z' v' n' xs') (hne : e ≠ e') : v.ownBlock = none ∨ v.ownBlock ≠ v'.ownBlock := by
  rcases h.2 with ⟨rfl, _⟩ | ⟨k, cap, cur, rfl, _, hk, _⟩
  · left; rfl
  · rcases h'.2 with ⟨rfl, _⟩ | ⟨k', cap', cur', rfl, _, hk', _⟩
    · right; intro hc; cases hc
    · right
      intro hc
      simp only [Value.ownBlock, Option.some.injEq] at hc
      subst hc
      rw [hk] at hk'
      injection hk' with hk'
      injection hk' with _ hk'
      exact hne hk'
theorem row_below {xs : List Value} (h : w.ownsRow B e z v n xs) (hb : Below w.heap.size w w') : w'.ownsRow B e z v n xs :=
  h.kept (row := none) ⟨hb.os, hb.tape, hb.output, hb.size, fun i hi _ => hb.block i hi⟩ (by cases hv : v.ownBlock <;> simp)
theorem row_block {g : Nat} {t : TypeId} {ds : List Value} (h : Blk w g t ds) {xs : List Value} (hr : w.ownsRow B e z v n xs) (hne : t ≠ e) : v.ownBlock ≠ some g := by
  rcases hr.2 with ⟨rfl, _⟩ | ⟨k, cap, cur, rfl, _, hk, _⟩
  · intro hc; cases hc
  · intro hc
    simp only [Value.ownBlock, Option.some.injEq] at hc
    subst hc
    unfold Blk at h
    rw [hk] at h
    injection h with h
    injection h with _ h
    exact hne h.symm

theorem grown_none {w w' : World} (h : w.grownBy w' none) : Below w.heap.size w w' := ⟨h.os, h.tape, h.output, h.size, fun j hj => h.block j hj (by simp)⟩

/-- append(nil, s...): a slice anew. -/
theorem wpList_append_all {ops : Array Oper} {rest : List Oper} {o : Oper} {a : Act} {Q : Exit → Act → World → Prop} (hgd : o.guard = none) (s x : Operand) (t : TypeId)
    (ho : o.op = .call { callee := .builtin .append, args := #[s, x], argTypes := #[t, t] })
    (B : Nat) (e : TypeId) (i : TypeInfo) (z : Value) (size bytes : Nat) (ht : P.underlying t = some (.slice e)) (hi : P.info? e = some i) (hz : i.zero = some z)
    (hsize : i.size = size) (hby : i.bytes = bytes) (hzs : z.cells.size = size) (hsz : 0 < size)
    (hs : a.eval s = .slice none 0 0) (v : Value) (n : Nat) (cs : Nat → List Value) (hx : a.eval x = v) (hv : SlC w v n size cs) (hcs : ∀ j, j < n → (cs j).length = size)
    (h1 : ∀ j, j < n → ∀ u ∈ cs j, u.oneCell' = true) (hb1 : n ≤ maxLen) (hbytes : n * bytes ≤ 140737488355328) (hB : B ≤ w.heap.size)
    (h : ∀ v' w', w'.ownsRow B e size v' n (flat cs n) → w.grownBy w' none → wpList P ops Q rest (a.put o.dst v') w') : wpList P ops Q (o :: rest) a w := by
  obtain ⟨ao, c, rfl, h2⟩ := hv
  have hown := World.ownsRow_nil w B e size
  cases ao with
  | none =>
    have hn0 : n = 0 := by
      rcases Nat.eq_zero_or_pos n with h0 | h0
      · exact h0
      · obtain ⟨b, o, h3, _⟩ := h2 h0; cases h3
    subst hn0
    refine wpList_plain hgd fun K hK => ?_
    have hrun : (Builtin.append_ #[t, t] o.type #[.slice none 0 0, .slice none 0 c]).run P w = .ok (.slice none 0 0) w := by
      simp [Builtin.append_, run_underlying ht, sizeOf, typeInfo, hi, Builtin.lenOf, Builtin.firstCells]
    unfold Oper.wp
    simp [execOp, ho, resolve, invoke, builtin, hs, hx, hrun, Result.andThen]
    exact hK _ _ (h _ _ hown ⟨rfl, rfl, rfl, Nat.le_refl _, fun _ _ _ => rfl⟩)
  | some ad =>
    refine wpList_append_own w hgd s x t ho B e i z size bytes ht hi hz hsize hby hzs hsz (.slice none 0 0) 0 [] hs hown ad n c (flat cs n) hx (flat_length n hcs) ?_ (flat_all n h1) (by omega) (by rw [Nat.zero_add]; exact hbytes) hB ?_
    · intro m u hm
      obtain ⟨j, i', hj, rfl, hi', hu⟩ := flat_at n hcs m u hm
      obtain ⟨b, o', h3, h4, h5⟩ := h2 (by omega)
      cases h3
      rw [Addr.add_mid, ← Nat.add_assoc]
      exact h5 j hj i' u hu
    · intro v' w' h6 h7 _
      rw [Nat.zero_add, List.nil_append] at h6
      exact h v' w' h6 h7
end
end Go.Proofs.YtlnnhgmkibjgmaaDoor
end

/- The document's Copy: an object anew. -/
section
set_option linter.unusedVariables false
set_option linter.unusedSimpArgs false
namespace Go.Proofs.YtlnnhgmkibjgmaaDoor
open Go Go.RowKit Oj

theorem infoRel : (Tryd.prog.info? 58).map (fun i => (i.zero, i.size, i.bytes)) = some (some (.agg #[.int .u32 0, .int .u8 0, .string ⟨#[]⟩, .int .u32 0]), 4, 32) := by kernel_rfl
theorem infoNote : (Tryd.prog.info? 76).map (fun i => (i.zero, i.size, i.bytes)) = some (some (.agg #[.int .u8 0, .int .u32 0, .int .u32 0]), 3, 12) := by kernel_rfl
theorem infoSym : (Tryd.prog.info? 29).map (fun i => (i.zero, i.size, i.bytes)) = some (some (.agg #[.string ⟨#[]⟩, .int .u8 0, .int .u8 0, .int .u32 0, .string ⟨#[]⟩, .slice none 0 0, .slice none 0 0]), 7, 88) := by kernel_rfl
theorem rl_len (x : Rl) : (rlCells x).length = 4 := rfl
theorem nt_len (x : Nt) : (ntCells x).length = 3 := rfl
theorem sy_len (x : Sy) (a b : Value) : (syCells x a b).length = 7 := rfl
theorem rl_one (x : Rl) : ∀ u ∈ rlCells x, u.oneCell' = true := by intro u hu; simp only [rlCells, List.mem_cons, List.not_mem_nil, or_false] at hu; rcases hu with rfl | rfl | rfl | rfl <;> rfl
theorem nt_one (x : Nt) : ∀ u ∈ ntCells x, u.oneCell' = true := by intro u hu; simp only [ntCells, List.mem_cons, List.not_mem_nil, or_false] at hu; rcases hu with rfl | rfl | rfl <;> rfl

/-- Own rows of relocations, of notes. -/
def OwnR (w : World) (B : Nat) (v : Value) (l : List Rl) : Prop := w.ownsRow B 58 4 v l.length (flat (fun j => rlCells (l.getD j Rl.nought)) l.length)
def OwnN (w : World) (B : Nat) (v : Value) (l : List Nt) : Prop := w.ownsRow B 76 3 v l.length (flat (fun j => ntCells (l.getD j Nt.nought)) l.length)
theorem row_slice {w : World} {B : Nat} {e : TypeId} {z : Nat} {v : Value} {n : Nat} {xs : List Value} (h : w.ownsRow B e z v n xs) : ∃ a c, v = .slice a n c := by
  rcases h.2 with ⟨rfl, rfl⟩ | ⟨g, cap, cur, rfl, _⟩
  · exact ⟨_, _, rfl⟩
  · exact ⟨_, _, rfl⟩
theorem below_set {w wr : World} (hb : Below w.heap.size w wr) {g : Nat} (hg : w.heap.size ≤ g) (i : Nat) (u : Value) : Below w.heap.size w (wr.setCell ⟨g, i, none⟩ u) := hb.setCell hg u
theorem new_sym (W : World) (a b c d e f g : Value) : ∀ j u, [a, b, c, d, e, f, g][j]? = some u → (W.alloc (.cells #[a, b, c, d, e, f, g] 29)).cell? ((⟨W.heap.size, 0, none⟩ : Addr).add j) = some u :=
  World.news_of_block (cs := #[a, b, c, d, e, f, g]) (t := 29) (fr := (0, 0)) (heap_alloc_new W _)
theorem sy_one (x : Sy) (ar an : Option Addr) (nr nn cr cn : Nat) : ∀ u ∈ syCells x (.slice ar nr cr) (.slice an nn cn), u.oneCell' = true := by
  intro u hu; simp only [syCells, List.mem_cons, List.not_mem_nil, or_false] at hu; rcases hu with rfl | rfl | rfl | rfl | rfl | rfl | rfl <;> rfl

end Go.Proofs.YtlnnhgmkibjgmaaDoor
end

/- The document's name, bare, find (package aediculeref10); lines in memory. -/
section
set_option linter.unusedVariables false
set_option linter.unusedSimpArgs false
namespace Go.Proofs.YtlnnhgmkibjgmaaDoor
open Go Go.RowKit Oj Al

def lnCells (x : Ln) : List Value := [.string (tx x.label), .int .u8 x.op, .int .u8 x.d, .int .u8 x.a, .int .u8 x.b, .int .u32 x.im, .string (tx x.to), .string (tx x.name)]
def inV (op d a b im : Int) : Value := .agg #[.int .u8 op, .int .u8 d, .int .u8 a, .int .u8 b, .int .u32 im]
def lnV (x : Ln) : Value := .agg #[.string (tx x.label), .int .u8 x.op, .int .u8 x.d, .int .u8 x.a, .int .u8 x.b, .int .u32 x.im, .string (tx x.to), .string (tx x.name)]
def LinesAt (w : World) (v : Value) (l : List Ln) : Prop := SlC w v l.length 8 fun j => lnCells (l.getD j Ln.nought)
def lnFits (x : Ln) : Prop := x.label.length ≤ 140737488355328 ∧ (0 ≤ x.op ∧ x.op < 256) ∧ (0 ≤ x.d ∧ x.d < 256) ∧ (0 ≤ x.a ∧ x.a < 256) ∧ (0 ≤ x.b ∧ x.b < 256) ∧ (0 ≤ x.im ∧ x.im < 4294967296) ∧ x.to.length ≤ 140737488355328 ∧ x.name.length ≤ 140737488355328
def lnsFit (l : List Ln) : Prop := l.length * 56 ≤ 140737488355328 ∧ ∀ j, j < l.length → lnFits (l.getD j Ln.nought)
theorem LieC.ln {w : World} {b o : Nat} {x : Ln} (h : LieC w b o (lnCells x)) : w.cell? ⟨b, o, none⟩ = some (.string (tx x.label)) ∧ w.cell? ⟨b, o + 1, none⟩ = some (.int .u8 x.op) ∧ w.cell? ⟨b, o + 2, none⟩ = some (.int .u8 x.d) ∧ w.cell? ⟨b, o + 3, none⟩ = some (.int .u8 x.a) ∧ w.cell? ⟨b, o + 4, none⟩ = some (.int .u8 x.b) ∧ w.cell? ⟨b, o + 5, none⟩ = some (.int .u32 x.im) ∧ w.cell? ⟨b, o + 6, none⟩ = some (.string (tx x.to)) ∧ w.cell? ⟨b, o + 7, none⟩ = some (.string (tx x.name)) :=
  ⟨h 0 _ rfl, h 1 _ rfl, h 2 _ rfl, h 3 _ rfl, h 4 _ rfl, h 5 _ rfl, h 6 _ rfl, h 7 _ rfl⟩
theorem empty_eq (s : ByteArray) : (s.toList == []) = decide (by' s = []) := by
  rw [Bool.eq_iff_iff, beq_iff_eq, decide_eq_true_eq, ByteArray.toList_eq]
  exact Iff.rfl
theorem kname_any (s : ByteArray) (hs : s.size ≤ 140737488355328) (w : World) : Calls Tryd.prog 58 #[.string s] w fun e w' => e = .returned (.bool (nm0 (by' s))) ∧ w = w' := by
  have HN := Lib.hid (rname_any s hs w)
  have he := empty_eq s
  obtain ⟨p, hp⟩ : ∃ p, p = nameOk (by' s) := ⟨_, rfl⟩
  obtain ⟨q, hq⟩ : ∃ q, q = nm0 (by' s) := ⟨_, rfl⟩
  have HQ : Hid (q = (decide (by' s = []) || p)) := Lib.hid (by rw [hq, hp]; rfl)
  rw [← hp] at HN
  rw [← hq]
  by_cases h0 : by' s = []
  · rw [decide_eq_true h0] at he HQ
    have hqt : q = true := by rw [HQ.out]; rfl
    subst hqt
    clear h0 hp hq hs HQ
    go_enter Tryd.func58, Tryd.ntmps58
    go_wp2_with fail
    go_ret
    exact ⟨rfl, rfl⟩
  · rw [decide_eq_false h0] at he HQ
    have hqt : q = p := by rw [HQ.out]; rfl
    subst hqt
    clear h0 hp hq hs HQ
    go_enter Tryd.func58, Tryd.ntmps58
    go_wp2_with fail
    refine HN.out.mono ?_; rintro e w1 ⟨rfl, rfl⟩
    go_wp2_with fail
    go_ret
    exact ⟨rfl, rfl⟩
set_option maxHeartbeats 2000000 in
set_option maxRecDepth 100000 in
theorem kbare_any (x : Ln) (w : World) : Calls Tryd.prog 39 #[lnV x] w fun e w' => e = .returned (inV x.op x.d x.a x.b (im0 x)) ∧ Below w.heap.size w w' := by
  obtain ⟨lb, op, d, a, b, im, dst, nm⟩ := x
  unfold lnV inV
  simp only
  obtain ⟨I0, hI⟩ : ∃ I0, I0 = im0 ⟨lb, op, d, a, b, im, dst, nm⟩ := ⟨_, rfl⟩
  rw [← hI]
  have HI : Hid (I0 = if (decide (dst ≠ []) || decide (nm ≠ [])) = true then 0 else im) := Lib.hid hI
  have h1 := empty_eq (tx dst)
  have h2 := empty_eq (tx nm)
  rw [by_tx] at h1 h2
  obtain ⟨L, hL⟩ : ∃ L, L = tx lb := ⟨_, rfl⟩
  obtain ⟨T, hT⟩ : ∃ L, L = tx dst := ⟨_, rfl⟩
  obtain ⟨N, hN⟩ : ∃ L, L = tx nm := ⟨_, rfl⟩
  rw [← hL, ← hT, ← hN]
  rw [← hT] at h1
  rw [← hN] at h2
  have HR0 := Lib.hid (Blk.new2 w (.cells #[.string L, .int .u8 op, .int .u8 d, .int .u8 a, .int .u8 b, .int .u32 im, .string T, .string N] 42) 40 [.int .u8 0, .int .u8 0, .int .u8 0, .int .u8 0, .int .u32 0])
  have HB0 := Lib.hid (below_new2 w (.cells #[.string L, .int .u8 op, .int .u8 d, .int .u8 a, .int .u8 b, .int .u32 im, .string T, .string N] 42) (.cells #[.int .u8 0, .int .u8 0, .int .u8 0, .int .u8 0, .int .u32 0] 40))
  have HX0 := Lib.hid ((Blk.new w 42 [.string L, .int .u8 op, .int .u8 d, .int .u8 a, .int .u8 b, .int .u32 im, .string T, .string N]).alloc (.cells #[.int .u8 0, .int .u8 0, .int .u8 0, .int .u8 0, .int .u32 0] 40))
  clear hI hL hT hN
  go_enter Tryd.func39, Tryd.ntmps39
  go_upto_region 1 with (fail)
  obtain ⟨wb, hwb⟩ : ∃ wb, wb = (w.alloc (.cells #[.string L, .int .u8 op, .int .u8 d, .int .u8 a, .int .u8 b, .int .u32 im, .string T, .string N] 42)).alloc (.cells #[.int .u8 0, .int .u8 0, .int .u8 0, .int .u8 0, .int .u32 0] 40) := ⟨_, rfl⟩
  rw [← hwb] at HR0 HB0 HX0 ⊢
  clear hwb
  have c1 : wb.cell? ⟨w.heap.size, 1, none⟩ = some (.int .u8 op) := HX0.out.cell 1
  have c2 : wb.cell? ⟨w.heap.size, 2, none⟩ = some (.int .u8 d) := HX0.out.cell 2
  have c3 : wb.cell? ⟨w.heap.size, 3, none⟩ = some (.int .u8 a) := HX0.out.cell 3
  have c4 : wb.cell? ⟨w.heap.size, 4, none⟩ = some (.int .u8 b) := HX0.out.cell 4
  have c5 : wb.cell? ⟨w.heap.size, 5, none⟩ = some (.int .u32 im) := HX0.out.cell 5
  go_upto_region 2 with (fail)
  obtain ⟨g3, hg3⟩ : ∃ t, t = wb.heap.size := ⟨_, rfl⟩
  have HG : Hid (w.heap.size + 1 ≠ g3) := Lib.hid (by have := HR0.out.lt; omega)
  have HG2 : Hid (w.heap.size ≤ g3) := Lib.hid (by have := HR0.out.lt; omega)
  have HI1 := Lib.hid (Blk.new wb 40 [.int .u8 op, .int .u8 d, .int .u8 a, .int .u8 b, .int .u32 im])
  have HR1 := Lib.hid (HR0.out.alloc (.cells #[.int .u8 op, .int .u8 d, .int .u8 a, .int .u8 b, .int .u32 im] 40))
  have HX1 := Lib.hid (HX0.out.alloc (.cells #[.int .u8 op, .int .u8 d, .int .u8 a, .int .u8 b, .int .u32 im] 40))
  have HB1 := Lib.hid (below_box HB0.out (.cells #[.int .u8 op, .int .u8 d, .int .u8 a, .int .u8 b, .int .u32 im] 40))
  obtain ⟨w3, hw3⟩ : ∃ t, t = wb.alloc (.cells #[.int .u8 op, .int .u8 d, .int .u8 a, .int .u8 b, .int .u32 im] 40) := ⟨_, rfl⟩
  rw [← hw3] at HI1 HR1 HX1 HB1 ⊢
  rw [← hg3] at HI1 ⊢
  clear hw3 hg3 HR0 HB0 HX0 c1 c2 c3 c4 c5
  have c2 : w3.cell? ⟨w.heap.size, 6, none⟩ = some (.string T) := HX1.out.cell 6
  have c3 : w3.cell? ⟨w.heap.size, 7, none⟩ = some (.string N) := HX1.out.cell 7
  clear HX1
  by_cases hd : dst = []
  · rw [decide_eq_true hd] at h1
    by_cases hm : nm = []
    · rw [decide_eq_true hm] at h2
      have hI0 : I0 = im := by rw [HI.out, hd, hm]; rfl
      subst hI0
      clear hd hm HI
      go_upto_region 4 with (fail)
      obtain ⟨wc, rfl⟩ : ∃ t, t = w3 := ⟨_, rfl⟩
      have HI2 := HI1
      have HR2 := HR1
      have HB2 := HB1
      clear HI1 HR1 HB1 c2 c3
      have x0 : wc.cell? ⟨w.heap.size + 1, 0, none⟩ = some (.int .u8 0) := HR2.out.cell 0
      have x1 : wc.cell? ⟨w.heap.size + 1, 1, none⟩ = some (.int .u8 0) := HR2.out.cell 1
      have x2 : wc.cell? ⟨w.heap.size + 1, 2, none⟩ = some (.int .u8 0) := HR2.out.cell 2
      have x3 : wc.cell? ⟨w.heap.size + 1, 3, none⟩ = some (.int .u8 0) := HR2.out.cell 3
      have x4 : wc.cell? ⟨w.heap.size + 1, 4, none⟩ = some (.int .u32 0) := HR2.out.cell 4
      have f0 : wc.frozen? ⟨w.heap.size + 1, 0, none⟩ = false := HR2.out.frozen 0
      have f1 : wc.frozen? ⟨w.heap.size + 1, 1, none⟩ = false := HR2.out.frozen 1
      have f2 : wc.frozen? ⟨w.heap.size + 1, 2, none⟩ = false := HR2.out.frozen 2
      have f3 : wc.frozen? ⟨w.heap.size + 1, 3, none⟩ = false := HR2.out.frozen 3
      have f4 : wc.frozen? ⟨w.heap.size + 1, 4, none⟩ = false := HR2.out.frozen 4
      have z2 : w.heap.size + 1 < wc.heap.size := HR2.out.lt
      have y0 : wc.cell? ⟨g3, 0, none⟩ = some (.int .u8 op) := HI2.out.cell 0
      have y1 : wc.cell? ⟨g3, 1, none⟩ = some (.int .u8 d) := HI2.out.cell 1
      have y2 : wc.cell? ⟨g3, 2, none⟩ = some (.int .u8 a) := HI2.out.cell 2
      have y3 : wc.cell? ⟨g3, 3, none⟩ = some (.int .u8 b) := HI2.out.cell 3
      have y4 : wc.cell? ⟨g3, 4, none⟩ = some (.int .u32 I0) := HI2.out.cell 4
      go_wp2_with fail
      have HY := ((((HR2.out.set_ 0 (.int .u8 op)).set_ 1 (.int .u8 d)).set_ 2 (.int .u8 a)).set_ 3 (.int .u8 b)).set_ 4 (.int .u32 I0)
      refine bodyPost_ret (v := .agg #[.int .u8 op, .int .u8 d, .int .u8 a, .int .u8 b, .int .u32 I0]) (results_cell_row Tryd.results39 _ _ (w.heap.size + 1) 40 _ (0, 0) _ rfl HY Tryd.underlying40 rfl (by kernel_rfl)) rfl ⟨rfl, ?_⟩
      exact ((((HB2.out.setCell (p := ⟨w.heap.size + 1, 0, none⟩) (Nat.le_succ _) _).setCell (p := ⟨w.heap.size + 1, 1, none⟩) (Nat.le_succ _) _).setCell (p := ⟨w.heap.size + 1, 2, none⟩) (Nat.le_succ _) _).setCell (p := ⟨w.heap.size + 1, 3, none⟩) (Nat.le_succ _) _).setCell (p := ⟨w.heap.size + 1, 4, none⟩) (Nat.le_succ _) _
    · rw [decide_eq_false hm] at h2
      have hI0 : I0 = 0 := by rw [HI.out, hd, decide_eq_true hm]; rfl
      subst hI0
      clear hd hm HI
      have j0 : w3.cell? ⟨g3, 4, none⟩ = some (.int .u32 im) := HI1.out.cell 4
      have j1 : w3.frozen? ⟨g3, 4, none⟩ = false := HI1.out.frozen 4
      have j2 : g3 < w3.heap.size := HI1.out.lt
      go_upto_region 4 with (fail)
      have HI2 := Lib.hid (HI1.out.set_ 4 (.int .u32 0))
      simp only [List.set_cons_zero, List.set_cons_succ] at HI2
      have HR2 := Lib.hid (HR1.out.far (p := ⟨g3, 4, none⟩) HG.out (.int .u32 0))
      have HB2 := Lib.hid (HB1.out.setCell (p := ⟨g3, 4, none⟩) HG2.out (.int .u32 0))
      obtain ⟨wc, hwc⟩ : ∃ t, t = w3.setCell ⟨g3, 4, none⟩ (.int .u32 0) := ⟨_, rfl⟩
      rw [← hwc] at HI2 HR2 HB2 ⊢
      clear hwc j0 j1 j2 HI1 HR1 HB1 c2 c3
      have x0 : wc.cell? ⟨w.heap.size + 1, 0, none⟩ = some (.int .u8 0) := HR2.out.cell 0
      have x1 : wc.cell? ⟨w.heap.size + 1, 1, none⟩ = some (.int .u8 0) := HR2.out.cell 1
      have x2 : wc.cell? ⟨w.heap.size + 1, 2, none⟩ = some (.int .u8 0) := HR2.out.cell 2
      have x3 : wc.cell? ⟨w.heap.size + 1, 3, none⟩ = some (.int .u8 0) := HR2.out.cell 3
      have x4 : wc.cell? ⟨w.heap.size + 1, 4, none⟩ = some (.int .u32 0) := HR2.out.cell 4
      have f0 : wc.frozen? ⟨w.heap.size + 1, 0, none⟩ = false := HR2.out.frozen 0
      have f1 : wc.frozen? ⟨w.heap.size + 1, 1, none⟩ = false := HR2.out.frozen 1
      have f2 : wc.frozen? ⟨w.heap.size + 1, 2, none⟩ = false := HR2.out.frozen 2
      have f3 : wc.frozen? ⟨w.heap.size + 1, 3, none⟩ = false := HR2.out.frozen 3
      have f4 : wc.frozen? ⟨w.heap.size + 1, 4, none⟩ = false := HR2.out.frozen 4
      have z2 : w.heap.size + 1 < wc.heap.size := HR2.out.lt
      have y0 : wc.cell? ⟨g3, 0, none⟩ = some (.int .u8 op) := HI2.out.cell 0
      have y1 : wc.cell? ⟨g3, 1, none⟩ = some (.int .u8 d) := HI2.out.cell 1
      have y2 : wc.cell? ⟨g3, 2, none⟩ = some (.int .u8 a) := HI2.out.cell 2
      have y3 : wc.cell? ⟨g3, 3, none⟩ = some (.int .u8 b) := HI2.out.cell 3
      have y4 : wc.cell? ⟨g3, 4, none⟩ = some (.int .u32 0) := HI2.out.cell 4
      go_wp2_with fail
      have HY := ((((HR2.out.set_ 0 (.int .u8 op)).set_ 1 (.int .u8 d)).set_ 2 (.int .u8 a)).set_ 3 (.int .u8 b)).set_ 4 (.int .u32 0)
      refine bodyPost_ret (v := .agg #[.int .u8 op, .int .u8 d, .int .u8 a, .int .u8 b, .int .u32 0]) (results_cell_row Tryd.results39 _ _ (w.heap.size + 1) 40 _ (0, 0) _ rfl HY Tryd.underlying40 rfl (by kernel_rfl)) rfl ⟨rfl, ?_⟩
      exact ((((HB2.out.setCell (p := ⟨w.heap.size + 1, 0, none⟩) (Nat.le_succ _) _).setCell (p := ⟨w.heap.size + 1, 1, none⟩) (Nat.le_succ _) _).setCell (p := ⟨w.heap.size + 1, 2, none⟩) (Nat.le_succ _) _).setCell (p := ⟨w.heap.size + 1, 3, none⟩) (Nat.le_succ _) _).setCell (p := ⟨w.heap.size + 1, 4, none⟩) (Nat.le_succ _) _
  · rw [decide_eq_false hd] at h1
    have hI0 : I0 = 0 := by rw [HI.out, decide_eq_true hd]; rfl
    subst hI0
    clear hd HI h2
    have j0 : w3.cell? ⟨g3, 4, none⟩ = some (.int .u32 im) := HI1.out.cell 4
    have j1 : w3.frozen? ⟨g3, 4, none⟩ = false := HI1.out.frozen 4
    have j2 : g3 < w3.heap.size := HI1.out.lt
    go_upto_region 4 with (fail)
    have HI2 := Lib.hid (HI1.out.set_ 4 (.int .u32 0))
    simp only [List.set_cons_zero, List.set_cons_succ] at HI2
    have HR2 := Lib.hid (HR1.out.far (p := ⟨g3, 4, none⟩) HG.out (.int .u32 0))
    have HB2 := Lib.hid (HB1.out.setCell (p := ⟨g3, 4, none⟩) HG2.out (.int .u32 0))
    obtain ⟨wc, hwc⟩ : ∃ t, t = w3.setCell ⟨g3, 4, none⟩ (.int .u32 0) := ⟨_, rfl⟩
    rw [← hwc] at HI2 HR2 HB2 ⊢
    clear hwc j0 j1 j2 HI1 HR1 HB1 c2 c3
    have x0 : wc.cell? ⟨w.heap.size + 1, 0, none⟩ = some (.int .u8 0) := HR2.out.cell 0
    have x1 : wc.cell? ⟨w.heap.size + 1, 1, none⟩ = some (.int .u8 0) := HR2.out.cell 1
    have x2 : wc.cell? ⟨w.heap.size + 1, 2, none⟩ = some (.int .u8 0) := HR2.out.cell 2
    have x3 : wc.cell? ⟨w.heap.size + 1, 3, none⟩ = some (.int .u8 0) := HR2.out.cell 3
    have x4 : wc.cell? ⟨w.heap.size + 1, 4, none⟩ = some (.int .u32 0) := HR2.out.cell 4
    have f0 : wc.frozen? ⟨w.heap.size + 1, 0, none⟩ = false := HR2.out.frozen 0
    have f1 : wc.frozen? ⟨w.heap.size + 1, 1, none⟩ = false := HR2.out.frozen 1
    have f2 : wc.frozen? ⟨w.heap.size + 1, 2, none⟩ = false := HR2.out.frozen 2
    have f3 : wc.frozen? ⟨w.heap.size + 1, 3, none⟩ = false := HR2.out.frozen 3
    have f4 : wc.frozen? ⟨w.heap.size + 1, 4, none⟩ = false := HR2.out.frozen 4
    have z2 : w.heap.size + 1 < wc.heap.size := HR2.out.lt
    have y0 : wc.cell? ⟨g3, 0, none⟩ = some (.int .u8 op) := HI2.out.cell 0
    have y1 : wc.cell? ⟨g3, 1, none⟩ = some (.int .u8 d) := HI2.out.cell 1
    have y2 : wc.cell? ⟨g3, 2, none⟩ = some (.int .u8 a) := HI2.out.cell 2
    have y3 : wc.cell? ⟨g3, 3, none⟩ = some (.int .u8 b) := HI2.out.cell 3
    have y4 : wc.cell? ⟨g3, 4, none⟩ = some (.int .u32 0) := HI2.out.cell 4
    go_wp2_with fail
    have HY := ((((HR2.out.set_ 0 (.int .u8 op)).set_ 1 (.int .u8 d)).set_ 2 (.int .u8 a)).set_ 3 (.int .u8 b)).set_ 4 (.int .u32 0)
    refine bodyPost_ret (v := .agg #[.int .u8 op, .int .u8 d, .int .u8 a, .int .u8 b, .int .u32 0]) (results_cell_row Tryd.results39 _ _ (w.heap.size + 1) 40 _ (0, 0) _ rfl HY Tryd.underlying40 rfl (by kernel_rfl)) rfl ⟨rfl, ?_⟩
    exact ((((HB2.out.setCell (p := ⟨w.heap.size + 1, 0, none⟩) (Nat.le_succ _) _).setCell (p := ⟨w.heap.size + 1, 1, none⟩) (Nat.le_succ _) _).setCell (p := ⟨w.heap.size + 1, 2, none⟩) (Nat.le_succ _) _).setCell (p := ⟨w.heap.size + 1, 3, none⟩) (Nat.le_succ _) _).setCell (p := ⟨w.heap.size + 1, 4, none⟩) (Nat.le_succ _) _
end Go.Proofs.YtlnnhgmkibjgmaaDoor
end
