/- Names as keys of a map. -/
import Derived.Test.YtakpdhmfbgfblaaAHad0
import Derived.StringKeys
namespace Go.Proofs.Ytakpdhmfbgfblaa
open Go.RowKit
variable {w w' : World}

abbrev TMp : TypeId := 45
theorem keyN : Maps.Keyed Try.prog 9 := Maps.string_keyed Try.underlying9
theorem keyOf_n (s : Nm) (hs : s.length ≤ maxLen) : keyOf Try.prog 9 (.string (nmS s)) = some (.string s) := by
  rw [Go.WideMaps.keyOf_string_mk Try.underlying9 (by rw [nmS_size]; exact hs)]
  rfl
theorem zeroM (w : World) : (zeroValue 33).run Try.prog w = .ok (.slice none 0 0) w := by
  have h : (Try.prog.info? 33).map (fun i => (i.zero, i.size, i.bytes)) = some (some (.slice none 0 0), 1, 24) := by kernel_rfl
  obtain ⟨i0, hi, hz0, hz1, hz2⟩ := info_parts h
  simp [zeroValue, typeInfo, hi, hz0]
/-- What a list of shares is as a map: the first of a name counts. -/
noncomputable def lstF : List ShA → Lit → Option Value
  | [] => fun _ => none
  | x :: A => updF (lstF A) (.string x.1) (some x.2.v)
/-- The partitions of the first share of a name. -/
def lstd : List Nm → List (List Int) → Nm → List Int
  | n :: ns, p :: P, nm => if n = nm then p else lstd ns P nm
  | _, _, _ => []
theorem lstF_look : ∀ (A : List ShA) (P : List (List Int)), A.length = P.length → (∀ i, i < A.length → ArgK kZ w (P.getD i []) (A.getD i sh0).2.ad (A.getD i sh0).2.m (A.getD i sh0).2.c) → ∀ nm, ∃ s : Sl, (lstF A (.string nm)).getD (.slice none 0 0) = s.v ∧ ArgK kZ w (lstd (A.map (·.1)) P nm) s.ad s.m s.c
  | [], [], _, _, nm => ⟨sl0, rfl, rfl, fun _ => ⟨rfl, rfl⟩, Nat.le_refl _, by unfold maxLen; show 0 ≤ _; omega, Or.inl rfl⟩
  | x :: A, p :: P, hl, h, nm => by
    obtain ⟨s, h1, h2⟩ := lstF_look A P (by simpa using hl) (fun i hi => by have := h (i + 1) (by simp; omega); simpa using this) nm
    by_cases e : x.1 = nm
    · subst e
      refine ⟨x.2, ?_, ?_⟩
      · show (updF (lstF A) (.string x.1) (some x.2.v) (.string x.1)).getD _ = _
        rw [updF_same]; rfl
      · show ArgK kZ w (if x.1 = x.1 then p else _) _ _ _
        rw [if_pos rfl]
        exact h 0 (by simp)
    · refine ⟨s, ?_, ?_⟩
      · show (updF (lstF A) (.string x.1) (some x.2.v) (.string nm)).getD _ = _
        rw [updF_other _ (fun e2 => e (by injection e2 with e2; exact e2.symm))]
        exact h1
      · show ArgK kZ w (if x.1 = nm then p else _) _ _ _
        rw [if_neg e]
        exact h2
  | [], _ :: _, hl, _, _ => by simp at hl
  | _ :: _, [], hl, _, _ => by simp at hl
theorem drop_back {A : List ShA} {m k : Nat} (hl : A.length = m) (hk : k < m) : A.drop (m - (k + 1)) = A.getD (m - 1 - k) sh0 :: A.drop (m - k) := by
  have e : m - (k + 1) = m - 1 - k := by omega
  have h : m - 1 - k < A.length := by omega
  rw [e, List.drop_eq_getElem_cons h, List.getD_eq_getElem?_getD, List.getElem?_eq_getElem h]
  congr 2
  omega
/-- What had becomes, name by name. -/
noncomputable def hdF (H : List ShA) : Lit → Option Value := H.foldl (fun f x => updF f (.string x.1) (some x.2.v)) (fun _ => none)
theorem hdF_snoc (H : List ShA) (x : ShA) : hdF (H ++ [x]) = updF (hdF H) (.string x.1) (some x.2.v) := by unfold hdF; rw [List.foldl_append]; rfl
theorem fold_other : ∀ (H : List ShA) (f : Lit → Option Value) (nm : Nm), nm ∉ H.map (·.1) → H.foldl (fun f x => updF f (.string x.1) (some x.2.v)) f (.string nm) = f (.string nm)
  | [], _, _, _ => rfl
  | x :: H, f, nm, h => by
    rw [List.foldl_cons, fold_other H _ nm (fun hm => h (List.mem_cons_of_mem _ hm)), updF_other _ (fun e => h (by injection e with e; rw [e]; simp))]
theorem fold_look : ∀ (H : List ShA) (f : Lit → Option Value), (H.map (·.1)).Nodup → ∀ i, i < H.length → H.foldl (fun f x => updF f (.string x.1) (some x.2.v)) f (.string (H.getD i sh0).1) = some (H.getD i sh0).2.v
  | [], _, _, _, hi => by simp at hi
  | x :: H, f, hn, i, hi => by
    rw [List.map_cons, List.nodup_cons] at hn
    rw [List.foldl_cons]
    cases i with
    | zero => exact (fold_other H _ x.1 hn.1).trans (updF_same _ _ _)
    | succ i => exact fold_look H _ hn.2 i (by simpa using hi)
theorem hdF_look (H : List ShA) (hn : (H.map (·.1)).Nodup) (i : Nat) (hi : i < H.length) : hdF H (.string (H.getD i sh0).1) = some (H.getD i sh0).2.v := fold_look H _ hn i hi
end Go.Proofs.Ytakpdhmfbgfblaa
