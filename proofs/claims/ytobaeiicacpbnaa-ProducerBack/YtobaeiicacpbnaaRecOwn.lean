/- Records as cells; slices of Records that the call made; what is appended to them. -/
import Derived.Test.YtobaeiicacpbnaaRecRow
namespace Go.Proofs.Ytobaeiicacpbnaa
open Go.RowKit

/-- A Record's cells. -/
def recV (r : Rec) : List Value := [.string r.key, .string r.val, .bool r.dead]
def recsV : List Rec → List Value
  | [] => []
  | r :: rs => recV r ++ recsV rs
theorem recsV_length (rs : List Rec) : (recsV rs).length = rs.length * 3 := by
  induction rs with
  | nil => rfl
  | cons r rs ih => rw [recsV, List.length_append, ih, List.length_cons]; simp [recV]; omega
theorem recsV_append (rs ss : List Rec) : recsV (rs ++ ss) = recsV rs ++ recsV ss := by
  induction rs with
  | nil => rfl
  | cons r rs ih => rw [List.cons_append, recsV, ih, recsV, List.append_assoc]
theorem recsV_get (rs : List Rec) (i : Nat) (h : i < rs.length) :
    (recsV rs)[i * 3]? = some (.string (rs.getD i rec0).key) ∧ (recsV rs)[i * 3 + 1]? = some (.string (rs.getD i rec0).val) ∧ (recsV rs)[i * 3 + 2]? = some (.bool (rs.getD i rec0).dead) := by
  induction rs generalizing i with
  | nil => simp at h
  | cons r rs ih =>
    cases i with
    | zero => simp [recsV, recV]
    | succ i =>
      have h2 := ih i (by simp at h; omega)
      have e : (i + 1) * 3 = i * 3 + 3 := by omega
      rw [recsV, e]
      refine ⟨?_, ?_, ?_⟩
      · rw [List.getElem?_append_right (by simp [recV])]
        simpa [recV, List.getD_eq_getElem?_getD] using h2.1
      · rw [show i * 3 + 3 + 1 = (i * 3 + 1) + 3 by omega, List.getElem?_append_right (by simp [recV])]
        simpa [recV, List.getD_eq_getElem?_getD] using h2.2.1
      · rw [show i * 3 + 3 + 2 = (i * 3 + 2) + 3 by omega, List.getElem?_append_right (by simp [recV])]
        simpa [recV, List.getD_eq_getElem?_getD] using h2.2.2
theorem recsV_one (rs : List Rec) : ∀ u ∈ recsV rs, u.oneCell' = true := by
  induction rs with
  | nil => intro u hu; cases hu
  | cons r rs ih =>
    intro u hu
    rw [recsV, List.mem_append] at hu
    rcases hu with hu | hu
    · simp [recV] at hu
      rcases hu with rfl | rfl | rfl <;> rfl
    · exact ih u hu
theorem rrow_cells {w : World} {ad : Option Addr} {rs : List Rec} (h : RRow w ad rs) : ∀ a, ad = some a → ∀ j u, (recsV rs)[j]? = some u → w.cell? (a.add j) = some u := by
  intro a ha j u hu
  have hj : j < rs.length * 3 := by
    rw [← recsV_length]; exact (List.getElem?_eq_some_iff.1 hu).1
  rcases h with h | ⟨b, off, e, _, hc⟩
  · subst h; simp at hj
  · rw [ha] at e
    cases e
    obtain ⟨i, c, hi, hcc, rfl⟩ : ∃ i c, i < rs.length ∧ c < 3 ∧ j = i * 3 + c := ⟨j / 3, j % 3, by omega, by omega, by omega⟩
    obtain ⟨q0, q1, q2⟩ := hc i hi
    obtain ⟨g0, g1, g2⟩ := recsV_get rs i hi
    rw [addr_add]
    rcases (show c = 0 ∨ c = 1 ∨ c = 2 by omega) with rfl | rfl | rfl
    · rw [Nat.add_zero] at hu ⊢
      rw [q0, ← g0, hu]
    · rw [show off + (i * 3 + 1) = off + i * 3 + 1 by omega, q1, ← g1, hu]
    · rw [show off + (i * 3 + 2) = off + i * 3 + 2 by omega, q2, ← g2, hu]
theorem Try.infoR : (Try.prog.info? 91).map (fun i => (i.zero, i.size, i.bytes)) = some (some (.agg #[.string ByteArray.empty, .string ByteArray.empty, .bool false]), 3, 40) := by kernel_rfl
/-- In w the value v is a slice of the Records rs, in blocks from base on that the call made. -/
def OwnR (w : World) (base : Nat) (v : Value) (rs : List Rec) : Prop := w.ownsRow base 91 3 v rs.length (recsV rs)
theorem OwnR.form {w : World} {base : Nat} {v : Value} {rs : List Rec} (h : OwnR w base v rs) :
    ∃ ad cap, v = .slice ad rs.length cap ∧ (ad = none → rs.length = 0 ∧ cap = 0) ∧ rs.length ≤ cap ∧ cap ≤ maxLen ∧ RRow w ad rs := by
  rcases h.2 with ⟨hv, h0⟩ | ⟨g, cap, cur, hv, hb, hg, hn, hm, hs, ht⟩
  · exact ⟨none, 0, by rw [hv, h0], fun _ => ⟨h0, rfl⟩, by omega, by unfold maxLen; omega, Or.inl (List.eq_nil_of_length_eq_zero h0)⟩
  · refine ⟨some ⟨g, 0, none⟩, cap, hv, fun e => (by cases e), hn, hm, Or.inr ⟨g, 0, rfl, ?_, ?_⟩⟩
    · rcases Nat.lt_or_ge g w.heap.size with hlt | hge
      · exact hlt
      · rw [Array.getElem?_eq_none hge] at hg; cases hg
    · intro i hi
      have hc := World.ownsRow.cells h (g := g) (by rw [hv]; rfl)
      obtain ⟨g0, g1, g2⟩ := recsV_get rs i hi
      have c0 := hc _ _ g0
      have c1 := hc _ _ g1
      have c2 := hc _ _ g2
      rw [addr_add] at c0 c1 c2
      exact ⟨c0, by rw [show 0 + i * 3 + 1 = 0 + (i * 3 + 1) by omega]; exact c1, by rw [show 0 + i * 3 + 2 = 0 + (i * 3 + 2) by omega]; exact c2⟩
theorem OwnR.later {w w' : World} {base : Nat} {v : Value} {rs : List Rec} (h : OwnR w base v rs) (hb : Below w.heap.size w w') : OwnR w' base v rs := own_kept h hb
/-- 'append(v, x...)', v of the call's own, x whatever slice of Records. -/
theorem app_recs {w : World} {ops : Array Oper} {rest : List Oper} {o : Oper} {a : Act} {Q : Exit → Act → World → Prop} (hgd : o.guard = none) (s x : Operand)
    (ho : o.op = .call { callee := .builtin .append, args := #[s, x], argTypes := #[31, 31] })
    (base : Nat) (v : Value) (n : Nat) (L : List Rec) (hs : a.eval s = v) (hown : w.ownsRow base 91 3 v n (recsV L))
    (ad : Option Addr) (m c : Nat) (l : List Rec) (hx : a.eval x = .slice ad m c) (hl : l.length = m) (hnone : ad = none → m = 0 ∧ c = 0) (hrow : RRow w ad l)
    (hbytes : (n + m) * 40 ≤ 140737488355328) (hbase : base ≤ w.heap.size)
    (h : ∀ v' w', w'.ownsRow base 91 3 v' (n + m) (recsV (L ++ l)) → w.grownBy w' v.ownBlock → wpList Try.prog ops Q rest (a.put o.dst v') w') : wpList Try.prog ops Q (o :: rest) a w := by
  obtain ⟨i0, hi, hz0, hz1, hz2⟩ := info_parts Try.infoR
  cases ad with
  | none =>
    obtain ⟨rfl, rfl⟩ := hnone rfl
    obtain rfl : l = [] := List.eq_nil_of_length_eq_zero hl
    refine wpList_append_own_none hgd s x 31 ho base 91 i0 3 Try.underlying31 hi v n _ hs hown hx ?_
    exact h v w (by simpa using hown) (World.grownBy.refl _ _)
  | some ad =>
    refine wpList_append_own w hgd s x 31 ho base 91 i0 _ 3 40 Try.underlying31 hi hz0 hz1 hz2 rfl (by decide) v n _ hs hown ad m c (recsV l) hx (by rw [recsV_length, hl]) (rrow_cells hrow ad rfl) (recsV_one l) (by unfold maxLen; omega) hbytes hbase ?_
    intro v' w' h1 h2 _
    rw [← recsV_append] at h1
    exact h v' w' h1 h2
theorem emptyR_own (w : World) (base : Nat) (hb : base ≤ w.heap.size) : (w.alloc (.cells #[] 91)).ownsRow base 91 3 (.slice (some ⟨w.heap.size, 0, none⟩) 0 0) 0 (recsV []) :=
  World.ownsRow_lit w #[] 0 hb (by unfold maxLen; omega) rfl
end Go.Proofs.Ytobaeiicacpbnaa
