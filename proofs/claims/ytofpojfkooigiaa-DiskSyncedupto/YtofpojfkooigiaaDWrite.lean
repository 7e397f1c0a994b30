/- Write of package disk. -/
import Derived.Test.YtofpojfkooigiaaDWrite1
namespace Go.Proofs.Ytofpojfkooigiaa
open Go.RowKit
variable {w w' : World} {F : List Nat} {D B M : Nat} {Dm : DataW Value} {V C : Nat → Nat} {s : DSt}

/-- No block has too many versions. -/
def DSt.few (s : DSt) : Prop := ∀ x ∈ s.bs, x.vs.length ≤ 1073741824
theorem Pic.moved (h : Pic w' F D B M Dm V C s) (hc : Chg F w w') : Moved Dk F D s w w' := ⟨⟨F, ⟨_, _, _, _, _, h⟩, fun _ hg => Or.inl hg⟩, hc⟩
theorem Moved.pre {w0 : World} (h : Moved Dk F D s w w') (hc : Chg F w0 w) : Moved Dk F D s w0 w' := by
  obtain ⟨⟨F', h1, h2⟩, h3⟩ := h
  exact ⟨⟨F', h1, fun g hg => (h2 g hg).imp id (fun h => Nat.le_trans hc.size h)⟩, hc.trans h3 (fun k hk => Or.inl hk)⟩
theorem Pic.not_byte (h : Pic w F D B M Dm V C s) {off : Nat} {x : Int} (hc : w.cell? ⟨D, off, none⟩ = some (.int .u8 x)) : False := by
  rw [h.cell] at hc
  unfold diskV at hc
  match off, hc with
  | 0, hc => simp at hc
  | 1, hc => simp at hc
  | 2, hc => simp at hc
  | 3, hc => simp at hc
  | n + 4, hc => simp at hc
/-- Bytes that came in stay as they are when the struct is written. -/
theorem Pic.part (h : Pic w F D B M Dm V C s) {p : Part} (hp : p.ok w) (hc : Chg [D] w w') : p.ok w' := hp.chg hc (fun b off e hne hm => by
  have e2 : b = D := by simpa using hm
  subst e2
  rcases hp.2.2.2 with h0 | ⟨b', off', e3, _, hcell⟩
  · exact hne h0
  · rw [e] at e3
    cases e3
    exact h.not_byte (hcell 0 (List.length_pos_iff.2 hne)))
theorem three_blocks (w : World) (a b c : Obj) : (((w.alloc a).alloc b).alloc c).heap[w.heap.size]? = some a ∧ (((w.alloc a).alloc b).alloc c).heap[w.heap.size + 1]? = some b ∧ (((w.alloc a).alloc b).alloc c).heap[w.heap.size + 2]? = some c := by
  have e1 : (w.alloc a).heap.size = w.heap.size + 1 := by simp
  have e2 : ((w.alloc a).alloc b).heap.size = w.heap.size + 2 := by simp
  refine ⟨?_, ?_, ?_⟩
  · rw [heap_alloc_old _ _ (by omega), heap_alloc_old _ _ (by omega)]; exact heap_alloc_last w a
  · rw [heap_alloc_old _ _ (by omega), ← e1]; exact heap_alloc_last (w.alloc a) b
  · rw [← e2]; exact heap_alloc_last ((w.alloc a).alloc b) c
set_option maxRecDepth 100000 in
set_option maxHeartbeats 2000000 in
theorem write_pic (h : Pic w F D B M Dm V C s) (hfew : s.few) (i : Int) (ad : Option Addr) (len cap : Nat) (l : List Nat) (hp : Part.ok w ⟨ad, len, cap, l⟩) :
    Calls Try.prog 17 #[.pointer (some ⟨D, 0, none⟩), .int .i64 i, .slice ad len cap] w fun x w' => x = .returned (.int .i64 (writeD s i l).1) ∧ Moved Dk F D (writeD s i l).2 w w' := by
  have b1 : Below w.heap.size w (((w.alloc (.cells #[.pointer (some ⟨D, 0, none⟩)] 23)).alloc (.cells #[.int .i64 i] 3)).alloc (.cells #[.slice ad len cap] 32)) :=
    (((Below.refl w.heap.size w).alloc (Nat.le_refl _) _).alloc (by simp) _).alloc (by simp; omega) _
  have hl : l.length = len := hp.1
  have h1 := h.below b1
  have hp1 := hp.later b1
  have hh := has_pic h1 i
  have B1 : Hid (Chg F w (((w.alloc (.cells #[.pointer (some ⟨D, 0, none⟩)] 23)).alloc (.cells #[.int .i64 i] 3)).alloc (.cells #[.slice ad len cap] 32))) := (show Hid _ from Chg.of b1)
  have HP1 : Hid (Pic (((w.alloc (.cells #[.pointer (some ⟨D, 0, none⟩)] 23)).alloc (.cells #[.int .i64 i] 3)).alloc (.cells #[.slice ad len cap] 32)) F D B M Dm V C s) := h1
  by_cases hi : s.has i = true
  · rw [hi] at hh
    by_cases hlen : len = 256
    · subst hlen
      have hw : writeD s i l = (if (opD s).1 then (0, (opD s).2.setB i.toNat (((opD s).2.at i.toNat).add l)) else (8, (opD s).2)) := by
        unfold writeD
        rw [hi, hl]
        rfl
      have hop : Calls Try.prog 38 #[.pointer (some ⟨D, 0, none⟩), .func (.func 39) #[] #[.pointer (some ⟨w.heap.size + 2, 0, none⟩), .pointer (some ⟨w.heap.size, 0, none⟩), .pointer (some ⟨w.heap.size + 1, 0, none⟩)]] (((w.alloc (.cells #[.pointer (some ⟨D, 0, none⟩)] 23)).alloc (.cells #[.int .i64 i] 3)).alloc (.cells #[.slice ad 256 cap] 32)) fun x w' => x = .returned (.int .i64 (writeD s i l).1) ∧ Moved Dk F D (writeD s i l).2 w w' := by
        refine (op_write h1 _ _ _ (fun w' => Moved Dk F D ((opD s).2.setB i.toNat (((opD s).2.at i.toNat).add l)) w w') (fun w2 h0 h2 hc => ?_)).mono ?_
        · have hi2 := has_lt hi
          have hci : (i.toNat : Int) = i := by omega
          have hltF := h.lt
          have hD := h.ltD
          have cell : ∀ g o, g ≠ D → (((w.alloc (.cells #[.pointer (some ⟨D, 0, none⟩)] 23)).alloc (.cells #[.int .i64 i] 3)).alloc (.cells #[.slice ad 256 cap] 32)).heap[g]? = some o → w2.heap[g]? = some o := fun g o hg ho => by
            rw [hc.block g (Array.getElem?_eq_some_iff.1 ho).1 (by simpa using hg)]; exact ho
          refine (write1_pic h2 i.toNat (by rw [opD_bs]; exact hi2.2) (w.heap.size + 2) w.heap.size (w.heap.size + 1) cap ad l (h1.part hp1 hc) ?_ ?_ ?_ ?_ ?_ ?_).mono ?_
          · rw [cell_of_row _ _ _ _ _ _ (cell (w.heap.size + 2) _ (by omega) (three_blocks w _ _ _).2.2)]; rfl
          · rw [cell_of_row _ _ _ _ _ _ (cell w.heap.size _ (by omega) (three_blocks w _ _ _).1)]; rfl
          · rw [cell_of_row _ _ _ _ _ _ (cell (w.heap.size + 1) _ (by omega) (three_blocks w _ _ _).2.1), hci]; rfl
          · exact fun hm => absurd (hltF _ hm) (by omega)
          · exact fun hm => absurd (hltF _ hm) (by omega)
          · rw [opD_at]; exact hfew _ (at_mem hi2.2)
          · rintro e w3 ⟨rfl, hm⟩
            exact ⟨rfl, hm.pre ((Chg.of b1).trans (G := [D]) hc (fun k hk => by simp at hk; rw [hk]; exact Or.inl h.mD))⟩
        · rintro e w3 (⟨h0, rfl, hm⟩ | ⟨h0, rfl, hm, hc⟩)
          · rw [hw, if_pos h0]
            exact ⟨rfl, hm⟩
          · rw [hw, if_neg (by rw [h0]; simp)]
            exact ⟨rfl, hm.moved ((Chg.of b1).trans (G := [D]) hc (fun k hk => by simp at hk; rw [hk]; exact Or.inl h.mD))⟩
      clear h h1 hp hp1 hw b1
      go_enter Try.func17, Try.ntmps17
      go_wp2_with (first
        | (go_at_call 35; refine hh.mono ?_; rintro e w' ⟨rfl, hw'⟩; obtain rfl := hw'.symm)
        | (go_at_call 38; refine hop.mono ?_; rintro e w3 ⟨rfl, hm⟩))
      go_ret
      exact ⟨rfl, hm⟩
    · have hw : writeD s i l = (1, s) := by
        unfold writeD
        rw [hi, hl]
        have : (len == 256) = false := by simpa using hlen
        rw [this]
        rfl
      rw [hw]
      clear h h1 hp hp1 hw b1
      go_enter Try.func17, Try.ntmps17
      go_wp2_with (go_at_call 35; refine hh.mono ?_; rintro e w' ⟨rfl, hw'⟩; obtain rfl := hw'.symm)
      go_ret
      exact ⟨rfl, HP1.out.moved B1.out⟩
  · have hi2 : s.has i = false := by simpa using hi
    rw [hi2] at hh
    have hw : writeD s i l = (1, s) := by
      unfold writeD
      rw [hi2]
      rfl
    rw [hw]
    clear h h1 hp hp1 hw b1
    go_enter Try.func17, Try.ntmps17
    go_wp2_with (go_at_call 35; refine hh.mono ?_; rintro e w' ⟨rfl, hw'⟩; obtain rfl := hw'.symm)
    go_ret
    exact ⟨rfl, HP1.out.moved B1.out⟩
end Go.Proofs.Ytofpojfkooigiaa
