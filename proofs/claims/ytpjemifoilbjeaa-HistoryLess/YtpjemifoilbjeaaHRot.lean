/- Parts of slices; calls by membership. -/
import Derived.Test.YtpjemifoilbjeaaHHapL
import Derived.Test.YtpjemifoilbjeaaHLessM
namespace Go.Proofs.Ytpjemifoilbjeaa
open Go.RowKit Hy
variable {w w' W : World} {α : Type} {K : Kd α} {l : List α} {ad : Option Addr} {m c : Nat}

theorem ArgK.takeK (h : ArgK K w l ad m c) {k : Nat} (hk : k ≤ m) : ArgK K w (l.take k) ad k c := by
  have hl := h.len
  have hc := h.cap
  refine ⟨by rw [List.length_take]; omega, fun e => ⟨by have := (h.nil e).1; omega, (h.nil e).2⟩, by omega, h.room, ?_⟩
  rcases h.row with e | ⟨b, off, e, hb, hcell⟩
  · exact Or.inl (by rw [e]; simp)
  · refine Or.inr ⟨b, off, e, hb, fun i hi c hc => ?_⟩
    rw [List.length_take] at hi
    rw [hcell i (by omega) c hc]
    congr 2
    simp only [List.getD_eq_getElem?_getD]
    rw [List.getElem?_take, if_pos (by omega)]
theorem ArgK.dropK (h : ArgK K w l ad m c) {j : Nat} (hj : j ≤ m) {ad2 : Option Addr} (hn : ad2 = none → ad = none) (ha : j < m → ∀ b off, ad = some ⟨b, off, none⟩ → ad2 = some ⟨b, off + j * K.sz, none⟩) : ArgK K w (l.drop j) ad2 (m - j) (c - j) := by
  have hl := h.len
  have hc := h.cap
  have hr := h.room
  refine ⟨by rw [List.length_drop]; omega, fun e => ?_, by omega, by omega, ?_⟩
  · have := h.nil (hn e); omega
  · by_cases hlt : j < m
    · obtain ⟨b, off, e, hb, hcell⟩ := h.cells (by omega)
      refine Or.inr ⟨b, off + j * K.sz, ha hlt b off e, hb, fun i hi c hc => ?_⟩
      rw [List.length_drop] at hi
      have := hcell (j + i) (by omega) c hc
      rw [show off + j * K.sz + i * K.sz + c = off + (j + i) * K.sz + c by rw [Nat.add_mul]; omega, this]
      congr 2
      simp only [List.getD_eq_getElem?_getD, List.getElem?_drop]
    · exact Or.inl (List.eq_nil_of_length_eq_zero (by rw [List.length_drop]; omega))
theorem HV.mem {K : Kd HcA} {A : List HcA} (h : HV K w A ad m c) : ∀ x ∈ A, ArgK kS w x.1.vals x.2.ad x.2.m x.2.c ∧ Small x.1 := fun x hx => by
  obtain ⟨i, hi, rfl⟩ := List.getElem_of_mem hx
  have hl := h.row.len
  have e : A.getD i hz0 = A[i] := by rw [List.getD_eq_getElem?_getD, List.getElem?_eq_getElem hi]; rfl
  have h1 := h.part i (by omega)
  have h2 := h.small i (by omega)
  rw [e] at h1 h2
  exact ⟨h1, h2⟩
theorem HV.of {K : Kd HcA} {A : List HcA} (h : ArgK K w A ad m c) (hm : ∀ x ∈ A, ArgK kS w x.1.vals x.2.ad x.2.m x.2.c ∧ Small x.1) : HV K w A ad m c := by
  have hl := h.len
  have e : ∀ i, i < m → A.getD i hz0 ∈ A := fun i hi => by
    rw [List.getD_eq_getElem?_getD, List.getElem?_eq_getElem (by omega)]
    exact List.getElem_mem _
  exact ⟨h, fun i hi => (hm _ (e i hi)).1, fun i hi => (hm _ (e i hi)).2⟩
theorem cls_perm {A B : List HcA} (h : A.Perm B) : (cls A).Perm (cls B) := h.map _
/-- What is left without one, behind a copy of one's own. -/
theorem HV.less {A : List HcA} {a2 : Option Addr} {c2 b2 k : Nat} (h : HV kC w A ad m c) (hb : RowKit.Below w.heap.size w w') (ho : OwnK kC w' b2 (.slice a2 (m - 1) c2) (A.take k ++ A.drop (k + 1))) : HV kC w' (A.take k ++ A.drop (k + 1)) a2 (m - 1) c2 := by
  refine HV.of (own_arg (s := ⟨a2, m - 1, c2⟩) kC_ok.tofit ho) (fun x hx => ?_)
  have hx2 : x ∈ A := by
    rcases List.mem_append.1 hx with h | h
    · exact List.mem_of_mem_take h
    · exact List.mem_of_mem_drop h
  obtain ⟨h1, h2⟩ := h.mem x hx2
  exact ⟨h1.later hb, h2⟩
/-- One taken to the end. -/
theorem HV.turned {A : List HcA} {a2 : Option Addr} {c2 b2 k n : Nat} (h : HV kC w A ad m c) (hk : k < m) (hb : RowKit.Below w.heap.size w w') (ho : OwnK kC w' b2 (.slice a2 n c2) (A.take k ++ A.drop (k + 1) ++ [A.getD k hz0])) : HV kC w' (A.take k ++ A.drop (k + 1) ++ [A.getD k hz0]) a2 n c2 ∧ (cls (A.take k ++ A.drop (k + 1) ++ [A.getD k hz0])).Perm (cls A) := by
  have hl := h.row.len
  have hp : (A.take k ++ A.drop (k + 1) ++ [A.getD k hz0]).Perm A := (List.perm_append_comm).trans (take_perm A hz0 k (by omega))
  refine ⟨HV.of (own_arg (s := ⟨a2, n, c2⟩) kC_ok.tofit ho) (fun x hx => ?_), cls_perm hp⟩
  obtain ⟨h1, h2⟩ := h.mem x (hp.mem_iff.1 hx)
  exact ⟨h1.later hb, h2⟩
theorem mod20 (x : Int) (m : Nat) (hm : 0 < m) : ∃ N : Nat, N < m ∧ (x.tmod (m : Int) + (m : Int)).tmod (m : Int) = (N : Int) ∧ (x.tmod (m : Int) + (m : Int)) % (m : Int) = (N : Int) ∧ x.tmod (m : Int) % (m : Int) = (N : Int) ∧ -(m : Int) < x.tmod (m : Int) ∧ x.tmod (m : Int) < (m : Int) := by
  have g1 := Int.tmod_lt_of_pos x (b := (m : Int)) (by omega)
  have g2 := Int.lt_tmod_of_pos x (b := (m : Int)) (by omega)
  have h0 : 0 ≤ x.tmod (m : Int) + (m : Int) := by omega
  have e1 := Int.tmod_eq_emod_of_nonneg (b := (m : Int)) h0
  have h1 := Int.emod_nonneg (x.tmod (m : Int) + (m : Int)) (b := (m : Int)) (by omega)
  have h2 := Int.emod_lt_of_pos (x.tmod (m : Int) + (m : Int)) (b := (m : Int)) (by omega)
  have h3 : (x.tmod (m : Int) + (m : Int)) % (m : Int) = x.tmod (m : Int) % (m : Int) := by simp
  refine ⟨((x.tmod (m : Int) + (m : Int)) % (m : Int)).toNat, by omega, by omega, by omega, by omega, g2, g1⟩
end Go.Proofs.Ytpjemifoilbjeaa
