/- part of package chain's reader (by gencpart.py). -/
import Derived.Test.YthadagpfmacemaaCNum
import Derived.Test.YthadagpfmacemaaCGrow
namespace Go.Proofs.Ythadagpfmacemaa
open Go.RowKit
variable {w w' : World} {ad : Option Addr} {len cap : Nat} {l : List Nat} {R p : Nat}

theorem ownsR_chg {w w' : World} {base E z n : Nat} {v : Value} {xs : List Value} {F : List Nat} (h : w.ownsRow base E z v n xs) (hb : Chg F w w') (hn : ∀ g ∈ v.ownBlock.toList, g ∉ F) : w'.ownsRow base E z v n xs := by
  refine ⟨h.1, ?_⟩
  rcases h.2 with h2 | ⟨g, cap, cur, hv, hgb, hg, r⟩
  · exact Or.inl h2
  · refine Or.inr ⟨g, cap, cur, hv, hgb, ?_, r⟩
    have hlt : g < w.heap.size := by
      rcases Nat.lt_or_ge g w.heap.size with hlt | hge
      · exact hlt
      · rw [Array.getElem?_eq_none hge] at hg; cases hg
    rw [hb.block g hlt (hn g (by rw [hv]; simp [Value.ownBlock]))]
    exact hg
theorem owns_slice' {w : World} {base E z n : Nat} {v : Value} {xs : List Value} (h : w.ownsRow base E z v n xs) : ∃ ad n' c, v = .slice ad n' c := by
  rcases h.2 with ⟨rfl, -⟩ | ⟨g, cap, cur, rfl, -⟩
  · exact ⟨_, _, _, rfl⟩
  · exact ⟨_, _, _, rfl⟩
theorem ints_one (w : World) (x : Int) (hx : -9223372036854775808 ≤ x ∧ x ≤ 9223372036854775807) : Ints (w.alloc (.cells #[.int .i64 x] 3)) [x] (some ⟨w.heap.size, 0, none⟩) 1 1 := by
  have hb : Blk (w.alloc (.cells #[.int .i64 x] 3)) w.heap.size #[.int .i64 x] 3 := heap_alloc_new w _
  refine ⟨rfl, Nat.le_refl _, by unfold maxLen; omega, Or.inr ⟨w.heap.size, 0, rfl, hb.lt, fun i hi => ?_⟩, fun y hy => by simp at hy; subst hy; exact hx⟩
  obtain rfl : i = 0 := by omega
  exact hb.cell 0
theorem typed_ne {w : World} {base E z n : Nat} {v : Value} {xs : List Value} (h : w.ownsRow base E z v n xs) {g : Nat} {cs : Array Value} {T : TypeId} (hb : Blk w g cs T) (hT : T ≠ E) : g ∉ v.ownBlock.toList := fun hm => by
  obtain ⟨cur, hc⟩ := owns_typed h g hm
  rw [hb] at hc
  simp at hc
  exact hT hc.2
/-- part in its midst: j nodes are read. -/
structure PartW (w : World) (R p : Nat) (ad : Option Addr) (len cap : Nat) (l : List Nat) (b3 j : Nat) (v : Value) (W : World) : Prop where
  rd : RdC W R (p + 13 + j) ad len cap
  chg : Chg [R] w W
  res : Blk W w.heap.size #[.int .i64 0, .int .i64 0, .slice none 0 0] 61
  box : Blk W b3 #[.int .i64 ((nAt l p 6 : Nat) : Int), .int .i64 ((nAt l (p + 6) 6 : Nat) : Int), v] 61
  own : W.ownsRow w.heap.size 3 1 v j (intsV (nodesAt l (p + 13) j))
theorem PartW.num {b3 j : Nat} {v : Value} {W w2 : World} (h : PartW w R p ad len cap l b3 j v W) (hne : R ≠ w.heap.size) (h3 : R ≠ b3) (hw : Chg [R] W w2) (hr : RdC w2 R (p + 13 + j + 1) ad len cap) :
    Blk w2 b3 #[.int .i64 ((nAt l p 6 : Nat) : Int), .int .i64 ((nAt l (p + 6) 6 : Nat) : Int), v] 61 ∧ Blk w2 w.heap.size #[.int .i64 0, .int .i64 0, .slice none 0 0] 61 ∧ w2.ownsRow w.heap.size 3 1 v j (intsV (nodesAt l (p + 13) j)) ∧ Chg [R] w w2 ∧ RdC w2 R (p + 13 + j + 1) ad len cap :=
  ⟨h.box.chg hw (by simpa using fun e => h3 e.symm), h.res.chg hw (by simpa using fun e => hne e.symm), ownsR_chg h.own hw (fun g hg hm => by simp at hm; subst hm; exact typed_ne h.own h.rd (by decide) hg), h.chg.trans hw (fun k hk => Or.inl hk), hr⟩
theorem PartW.round {b3 j : Nat} {v v' : Value} {W w2 w3 : World} (h : PartW w R p ad len cap l b3 j v W) (hne : R ≠ w.heap.size) (h3 : R ≠ b3) (h4 : b3 ≠ w.heap.size) (hb3 : w.heap.size ≤ b3) (hw : Chg [R] W w2) (hr : RdC w2 R (p + 13 + j + 1) ad len cap) (o : Obj)
    (r1 : w3.ownsRow w.heap.size 3 1 v' (j + 1) (intsV (nodesAt l (p + 13) j ++ [((nAt l (p + 13 + j) 1 : Nat) : Int)]))) (r2 : (w2.alloc o).grownBy w3 v.ownBlock) :
    w3.cell? ⟨b3, 2, none⟩ = some v ∧ w3.frozen? ⟨b3, 2, none⟩ = false ∧ PartW w R p ad len cap l b3 (j + 1) v' (w3.setCell ⟨b3, 2, none⟩ v') := by
  obtain ⟨k3, kz, ko, kc, kr⟩ := h.num hne h3 hw hr
  have ca : Chg [] w2 (w2.alloc o) := Chg.of ((Below.refl _ _).alloc (Nat.le_refl _) _)
  have cg := grown_chg r2
  have n3 := typed_ne ko k3 (by decide)
  have nz := typed_ne ko kz (by decide)
  have nr := typed_ne ko kr (by decide)
  have q3 := (k3.chg ca (by simp)).chg cg n3
  have qz := (kz.chg ca (by simp)).chg cg nz
  have qr : RdC w3 R (p + 13 + j + 1) ad len cap := (Blk.chg (Blk.chg kr ca (by simp)) cg nr)
  have cs : Chg [b3] w3 (w3.setCell ⟨b3, 2, none⟩ v') := (Chg.refl _ _).set (Or.inl (by simp)) _ _
  refine ⟨q3.cell 2, q3.free 2, ?_, ?_, qz.other (fun e => h4 e.symm) _ _, by have := q3.set 2 v'; exact this, ?_⟩
  · exact Blk.other qr h3 _ _
  · refine ((kc.trans ca (fun k hk => by cases hk)).trans cg (fun k hk => ?_)).trans cs (fun k hk => by simp at hk; subst hk; exact Or.inr hb3)
    exact Or.inr (owns_base ko k (by simpa using hk))
  · rw [nodesAt_succ]
    exact ownsR_chg r1 cs (fun g hg hm => by simp at hm; subst hm; exact typed_ne r1 q3 (by decide) hg)
set_option maxRecDepth 100000 in
set_option maxHeartbeats 4000000 in
theorem part_any (hR : RdC w R p ad len cap) (hB : Bts w ad len cap l R) (hpl : p ≤ len) :
    Calls Try.prog 60 #[.pointer (some ⟨R, 0, none⟩)] w fun e w' => ((∃ s : Sl, e = .returned (.agg #[.int .i64 (partAt l p).first, .int .i64 (partAt l p).id, .slice s.ad s.m s.c]) ∧ Hid (partEnd l p ≤ len ∧ NewI w' w.heap.size (partAt l p).nodes s ∧ RdC w' R (partEnd l p) ad len cap)) ∨ (¬ partEnd l p ≤ len ∧ e = .panicked (refusal 22))) ∧ Chg [R] w w' := by
  have hRl : R < w.heap.size := Blk.lt hR
  have hlt := hB.lt
  have n0 : Below w.heap.size w (w.alloc (.cells #[.int .i64 0, .int .i64 0, .slice none 0 0] 61)) := (Below.refl _ _).alloc (Nat.le_refl _) _
  have hcn : nAt l (p + 12) 1 < 256 := nAt_one l hlt _
  have hmx := hB.max
  have HN0 : Hid (∀ (X : World), Chg [R] (w.alloc (.cells #[.int .i64 0, .int .i64 0, .slice none 0 0] 61)) X → Bts X ad len cap l R ∧ Blk X w.heap.size #[.int .i64 0, .int .i64 0, .slice none 0 0] 61 ∧ Chg [R] w X) := hid (fun X hX => ⟨(hB.later n0).chg hX (fun b off e hl hm => by simp at hm; exact hB.ne b off e hl hm), (show Blk (w.alloc (.cells #[.int .i64 0, .int .i64 0, .slice none 0 0] 61)) w.heap.size #[.int .i64 0, .int .i64 0, .slice none 0 0] 61 from heap_alloc_new w _).chg hX (by simp; omega), (Chg.of n0).trans hX (fun k hk => Or.inl hk)⟩)
  have HBW : Hid (∀ X, Chg [R] w X → Bts X ad len cap l R) := hid (fun X hX => hB.chg hX (fun b off e hl hm => by simp at hm; exact hB.ne b off e hl hm))
  have HR0 : Hid (RdC (w.alloc (.cells #[.int .i64 0, .int .i64 0, .slice none 0 0] 61)) R p ad len cap) := hid (hR.later n0)
  have HRG : Hid (∀ q s, nAt l q s < 281474976710656 ∨ 6 < s) := hid (fun q s => by by_cases h6 : s ≤ 6; exact Or.inl (nAt_lt l hlt q s h6); exact Or.inr (by omega))
  obtain ⟨K, hK⟩ : ∃ K, nAt l (p + 12) 1 = K := ⟨_, rfl⟩
  rw [hK] at hcn
  have HPE : Hid (partEnd l p = p + 13 + K ∧ (partAt l p).nodes = nodesAt l (p + 13) K) := hid (by unfold partEnd partAt; rw [hK]; exact ⟨rfl, rfl⟩)
  have HK := hid hK
  have HOK : Hid (∀ (X : World) (q s : Nat), Chg [R] (w.alloc (.cells #[.int .i64 0, .int .i64 0, .slice none 0 0] 61)) X → RdC X R q ad len cap → 1 ≤ s → s ≤ 6 → q + s ≤ len → Calls Try.prog 59 #[.pointer (some ⟨R, 0, none⟩), .int .i64 (s : Int)] X fun e w' => e = .returned (.int .i64 ((nAt l q s : Nat) : Int)) ∧ Hid (RdC w' R (q + s) ad len cap ∧ Chg [R] X w')) := hid (fun X q s hX hr h1 h6 hq => num_ok hr (HN0.out X hX).1 h1 h6 hq)
  have HNO : Hid (∀ (X : World) (q s : Nat), Chg [R] (w.alloc (.cells #[.int .i64 0, .int .i64 0, .slice none 0 0] 61)) X → RdC X R q ad len cap → 1 ≤ s → s ≤ 6 → ¬ q + s ≤ len → q ≤ len → Calls Try.prog 59 #[.pointer (some ⟨R, 0, none⟩), .int .i64 (s : Int)] X fun e w' => e = .panicked (refusal 22) ∧ Hid (Chg [R] X w')) := hid (fun X q s hX hr h1 h6 hq hl => (num_no hr (HN0.out X hX).1 h1 h6 hq (by omega)).mono (fun e w' h => ⟨h.1, hid (Chg.of h.2)⟩))
  have C0 : Hid (Chg [R] (w.alloc (.cells #[.int .i64 0, .int .i64 0, .slice none 0 0] 61)) (w.alloc (.cells #[.int .i64 0, .int .i64 0, .slice none 0 0] 61))) := hid (Chg.refl _ _)
  clear hR hB n0 hlt hK
  by_cases a1 : p + 6 ≤ len
  case neg =>
    have HA : Hid (Calls Try.prog 59 #[.pointer (some ⟨R, 0, none⟩), .int .i64 6] (w.alloc (.cells #[.int .i64 0, .int .i64 0, .slice none 0 0] 61)) fun e w' => e = .panicked (refusal 22) ∧ Hid (Chg [R] (w.alloc (.cells #[.int .i64 0, .int .i64 0, .slice none 0 0] 61)) w')) := hid (HNO.out _ p 6 C0.out HR0.out (by omega) (by omega) a1 hpl)
    have HNE : Hid (¬ partEnd l p ≤ len) := hid (by rw [HPE.out.1]; omega)
    go_enter Try.func60, Try.ntmps60
    go_wp2_with (go_at_call 59; (with_reducible_and_instances (refine HA.out.mono ?_)); rintro x w1 ⟨rfl, h1⟩)
    exact ⟨rfl, Or.inr ⟨HNE.out, rfl⟩, (HN0.out _ h1.out).2.2⟩
  have HA : Hid (Calls Try.prog 59 #[.pointer (some ⟨R, 0, none⟩), .int .i64 6] (w.alloc (.cells #[.int .i64 0, .int .i64 0, .slice none 0 0] 61)) fun e w' => e = .returned (.int .i64 ((nAt l p 6 : Nat) : Int)) ∧ Hid (RdC w' R (p + 6) ad len cap ∧ Chg [R] (w.alloc (.cells #[.int .i64 0, .int .i64 0, .slice none 0 0] 61)) w')) := hid (HOK.out _ p 6 C0.out HR0.out (by omega) (by omega) a1)
  by_cases a2 : p + 6 + 6 ≤ len
  case neg =>
    have HNE : Hid (¬ partEnd l p ≤ len) := hid (by rw [HPE.out.1]; omega)
    have HA2 : Hid (∀ X, RdC X R (p + 6) ad len cap ∧ Chg [R] (w.alloc (.cells #[.int .i64 0, .int .i64 0, .slice none 0 0] 61)) X → Calls Try.prog 59 #[.pointer (some ⟨R, 0, none⟩), .int .i64 6] X fun e w' => e = .panicked (refusal 22) ∧ Hid (Chg [R] X w')) := hid (fun X hX => HNO.out X (p + 6) 6 hX.2 hX.1 (by omega) (by omega) a2 (by omega))
    go_enter Try.func60, Try.ntmps60
    go_wp2_with first
      | (go_at_call 59; (with_reducible_and_instances (refine HA.out.mono ?_)); rintro x w1 ⟨rfl, h1⟩)
      | (go_at_call 59; (with_reducible_and_instances (refine (HA2.out _ h1.out).mono ?_)); rintro x w2 ⟨rfl, h2⟩)
    exact ⟨rfl, Or.inr ⟨HNE.out, rfl⟩, (HN0.out _ (h1.out.2.trans h2.out (fun k hk => Or.inl hk))).2.2⟩
  have HA2 : Hid (∀ X, RdC X R (p + 6) ad len cap ∧ Chg [R] (w.alloc (.cells #[.int .i64 0, .int .i64 0, .slice none 0 0] 61)) X → Calls Try.prog 59 #[.pointer (some ⟨R, 0, none⟩), .int .i64 6] X fun e w' => e = .returned (.int .i64 ((nAt l (p + 6) 6 : Nat) : Int)) ∧ Hid (RdC w' R (p + 12) ad len cap ∧ Chg [R] (w.alloc (.cells #[.int .i64 0, .int .i64 0, .slice none 0 0] 61)) w')) := hid (fun X hX => (HOK.out X (p + 6) 6 hX.2 hX.1 (by omega) (by omega) a2).mono (fun e w' h => ⟨h.1, hid ⟨by have := h.2.out.1; rwa [show p + 6 + 6 = p + 12 by omega] at this, hX.2.trans h.2.out.2 (fun k hk => Or.inl hk)⟩⟩))
  have HAL : Hid (∀ (X : World), RdC X R (p + 12) ad len cap ∧ Chg [R] (w.alloc (.cells #[.int .i64 0, .int .i64 0, .slice none 0 0] 61)) X → RdC (X.alloc (.cells #[.int .i64 ((nAt l p 6 : Nat) : Int), .int .i64 ((nAt l (p + 6) 6 : Nat) : Int), .slice none 0 0] 61)) R (p + 12) ad len cap ∧ Chg [R] (w.alloc (.cells #[.int .i64 0, .int .i64 0, .slice none 0 0] 61)) (X.alloc (.cells #[.int .i64 ((nAt l p 6 : Nat) : Int), .int .i64 ((nAt l (p + 6) 6 : Nat) : Int), .slice none 0 0] 61)) ∧ Blk (X.alloc (.cells #[.int .i64 ((nAt l p 6 : Nat) : Int), .int .i64 ((nAt l (p + 6) 6 : Nat) : Int), .slice none 0 0] 61)) X.heap.size #[.int .i64 ((nAt l p 6 : Nat) : Int), .int .i64 ((nAt l (p + 6) 6 : Nat) : Int), .slice none 0 0] 61 ∧ w.heap.size + 1 ≤ X.heap.size) := hid (fun X hX => by
    have nb := (Below.refl X.heap.size X).alloc (Nat.le_refl _) (.cells #[.int .i64 ((nAt l p 6 : Nat) : Int), .int .i64 ((nAt l (p + 6) 6 : Nat) : Int), .slice none 0 0] 61)
    exact ⟨Blk.later hX.1 nb, hX.2.trans (Chg.of nb) (fun k hk => Or.inl hk), heap_alloc_new X _, by have := hX.2.size; simpa using this⟩)
  by_cases a3 : p + 12 + 1 ≤ len
  case neg =>
    have HNE : Hid (¬ partEnd l p ≤ len) := hid (by rw [HPE.out.1]; omega)
    go_enter Try.func60, Try.ntmps60
    go_wp2_with first
      | (go_at_call 59; (with_reducible_and_instances (refine HA.out.mono ?_)); rintro x w1 ⟨rfl, h1⟩)
      | (go_at_call 59; (with_reducible_and_instances (refine (HA2.out _ h1.out).mono ?_)); rintro x w2 ⟨rfl, h2⟩; have h2a := HAL.out w2 h2.out; have HA3 := HNO.out _ (p + 12) 1 h2a.2.1 h2a.1 (by omega) (by omega) a3 (by omega))
      | (go_at_call 59; refine HA3.mono ?_; rintro x w3 ⟨rfl, h3⟩)
    exact ⟨rfl, Or.inr ⟨HNE.out, rfl⟩, (HN0.out _ (h2a.2.1.trans h3.out (fun k hk => Or.inl hk))).2.2⟩
  go_enter Try.func60, Try.ntmps60
  go_wp2_with first
    | (go_at_call 59; (with_reducible_and_instances (refine HA.out.mono ?_)); rintro x w1 ⟨rfl, h1⟩)
    | (go_at_call 59; (with_reducible_and_instances (refine (HA2.out _ h1.out).mono ?_)); rintro x w2 ⟨rfl, h2⟩; have h2a := HAL.out w2 h2.out; have HA3 := HOK.out _ (p + 12) 1 h2a.2.1 h2a.1 (by omega) (by omega) a3; rw [HK.out] at HA3; have H2A := hid h2a; clear h2a)
    | (go_at_call 59; refine HA3.mono ?_; rintro x w3 ⟨rfl, h3⟩; clear HA3)
  have HW0 : Hid (PartW w R p ad len cap l w2.heap.size 0 (.slice none 0 0) w3) := hid (by
    have q := H2A.out
    have c3 := q.2.1.trans h3.out.2 (fun k hk => Or.inl hk)
    refine ⟨by have := h3.out.1; rwa [show p + 12 + 1 = p + 13 + 0 by omega] at this, (HN0.out _ c3).2.2, (HN0.out _ c3).2.1, q.2.2.1.chg h3.out.2 (by simp; have := q.2.2.2; omega), World.ownsRow_nil _ _ _ _⟩)
  have hb3 := H2A.out.2.2.2
  clear h1 h2 h3 H2A HA HA2 HAL C0 HR0
  generalize w2.heap.size = b3 at *
  go_loopw [12] (fun i wr => ∃ j : Nat, j ≤ K ∧ p + 13 + j ≤ len ∧ i = .int .i64 j ∧ ∃ v, Hid (PartW w R p ad len cap l b3 j v wr)) (fun i _ => K - (intOf i).toNat)
  case atStart => exact ⟨0, by omega, by omega, rfl, _, HW0⟩
  case round =>
    obtain ⟨j, hj, hjl, rfl, v, HW⟩ := hrel
    clear HW0
    by_cases hjk : j < K
    · have hlti : decide ((j : Int) < (K : Int)) = true := by simp; omega
      have HV := hid (HW.out.box.cell 2)
      have HBT : Hid (∀ X, Chg [R] wr X → Bts X ad len cap l R ∧ Chg [R] w X) := hid (fun X hX => by
        have := HW.out.chg.trans hX (fun k hk => Or.inl hk)
        exact ⟨HBW.out X this, this⟩)
      by_cases a4 : p + 13 + j + 1 ≤ len
      · have HNU : Hid (∀ X, Below wr.heap.size wr X → Calls Try.prog 59 #[.pointer (some ⟨R, 0, none⟩), .int .i64 1] X fun e w' => e = .returned (.int .i64 ((nAt l (p + 13 + j) 1 : Nat) : Int)) ∧ Hid (RdC w' R (p + 13 + j + 1) ad len cap ∧ Chg [R] wr w')) := hid (fun X hX => (num_ok (s := 1) (Blk.later HW.out.rd hX) (HBT.out X (Chg.of hX)).1 (by omega) (by omega) a4).mono (fun e w' h => ⟨h.1, hid ⟨h.2.out.1, (Chg.of hX).trans h.2.out.2 (fun k hk => Or.inl hk)⟩⟩))
        have hX : Hid (-9223372036854775808 ≤ ((nAt l (p + 13 + j) 1 : Nat) : Int) ∧ ((nAt l (p + 13 + j) 1 : Nat) : Int) ≤ 9223372036854775807) := hid (by have := (HRG.out (p + 13 + j) 1); omega)
        have HC2 : Hid (∀ w2, (RdC w2 R (p + 13 + j + 1) ad len cap ∧ Chg [R] wr w2) → w.heap.size ≤ (w2.alloc (.cells #[.int .i64 ((nAt l (p + 13 + j) 1 : Nat) : Int)] 3)).heap.size ∧ (Chg [R] wr w2 ∧ Blk w2 b3 #[.int .i64 ((nAt l p 6 : Nat) : Int), .int .i64 ((nAt l (p + 6) 6 : Nat) : Int), v] 61 ∧ RdC w2 R (p + 13 + j + 1) ad len cap) ∧ (w2.alloc (.cells #[.int .i64 ((nAt l (p + 13 + j) 1 : Nat) : Int)] 3)).ownsRow w.heap.size 3 1 v j (intsV (nodesAt l (p + 13) j))) := hid (fun w2 h2 => by
          obtain ⟨k3, kz, ko, kc, kr⟩ := HW.out.num (by omega) (by omega) h2.2 h2.1
          exact ⟨by have := kc.size; simp; omega, ⟨h2.2, k3, kr⟩, own_kept ko ((Below.refl _ _).alloc (Nat.le_refl _) _)⟩)
        have HSP : Hid (∀ (w2 w3 : World) (v' : Value), (Chg [R] wr w2 ∧ Blk w2 b3 #[.int .i64 ((nAt l p 6 : Nat) : Int), .int .i64 ((nAt l (p + 6) 6 : Nat) : Int), v] 61 ∧ RdC w2 R (p + 13 + j + 1) ad len cap) → w3.ownsRow w.heap.size 3 1 v' (j + 1) (intsV (nodesAt l (p + 13) j ++ [((nAt l (p + 13 + j) 1 : Nat) : Int)])) → (w2.alloc (.cells #[.int .i64 ((nAt l (p + 13 + j) 1 : Nat) : Int)] 3)).grownBy w3 v.ownBlock → w3.cell? ⟨b3, 2, none⟩ = some v ∧ w3.frozen? ⟨b3, 2, none⟩ = false ∧ PartW w R p ad len cap l b3 (j + 1) v' (w3.setCell ⟨b3, 2, none⟩ v')) := hid (fun w2 w3 v' h2 r1 r2 => HW.out.round (by omega) (by omega) (by omega) (by omega) h2.1 h2.2.2 _ r1 r2)
        go_wp2_with fail
        refine wp_region_held_drew (S := fun W => True) (by kernel_rfl) (trivial) (fun hHeld => ?_)
        refine wpAnyH_take (i := 0) (oi := { dst := some 14, op := Op.fieldAddr 61 (Operand.tmp 3) 1, type := 0, pos := "bytes.go:62", after := #[], guard := none }) (v := ?_) rfl (by kernel_rfl) (by kernel_rfl) (by kernel_rfl) (fun _ _ _ h => h) (Or.inl ⟨by rfl, ?_⟩) hHeld ?_
        rotate_left
        · intro w hSw; (try dsimp only at hSw); go_simp; try with_reducible rfl
        try simp only [Act.put, List.setIfInBounds_toArray, List.set_cons_zero, List.set_cons_succ]
        refine wpAnyH_take (i := 1) (oi := { dst := some 15, op := Op.fieldAddr 54 (Operand.tmp 14) 1, type := 0, pos := "bytes.go:62", after := #[{ on := 0, ground := Ground.data }], guard := none }) (v := ?_) rfl (by kernel_rfl) (by kernel_rfl) (by kernel_rfl) (fun _ _ _ h => h) (Or.inl ⟨by rfl, ?_⟩) hHeld ?_
        rotate_left
        · intro w hSw; (try dsimp only at hSw); go_simp; try with_reducible rfl
        try simp only [Act.put, List.setIfInBounds_toArray, List.set_cons_zero, List.set_cons_succ]
        refine wpAnyH_take (i := 3) (oi := { dst := some 17, op := Op.move (Operand.tmp 0), type := 96, pos := "bytes.go:62", after := #[], guard := none }) (v := ?_) rfl (by kernel_rfl) (by kernel_rfl) (by kernel_rfl) (fun _ _ _ h => h) (Or.inl ⟨by rfl, ?_⟩) hHeld ?_
        rotate_left
        · intro w hSw; (try dsimp only at hSw); go_simp; try with_reducible rfl
        try simp only [Act.put, List.setIfInBounds_toArray, List.set_cons_zero, List.set_cons_succ]
        refine wpAnyH_ready (rs := [2, 4]) (by kernel_rfl) (by simp) ?_
        refine AllReadyH.cons rfl (fun K hK => ?_) (AllReadyH.cons rfl (fun K hK => ?_) (AllReadyH.nil))
        · skip
          have k2 : wr.cell? ⟨b3, 2, none⟩ = some v := HV.out
          go_simp
          refine hK.out _ _ (trivial) (fun hHeld => ?_)
          clear hK K
          try simp only [Act.put, List.setIfInBounds_toArray, List.set_cons_zero, List.set_cons_succ]
          refine wpAnyH_ready (rs := [4]) (by kernel_rfl) (by simp) ?_
          refine AllReadyH.cons rfl (fun K hK => ?_) (AllReadyH.nil)
          go_simp
          go_wp2_with (go_at_call 59; refine (HNU.out _ ((Below.refl _ wr).drew)).mono ?_; rintro x w2 ⟨rfl, hh⟩; have H2 := hid (HC2.out _ hh.out); clear hh)
          refine hK.out _ _ (trivial) (fun hHeld => ?_)
          clear hK K
          try simp only [Act.put, List.setIfInBounds_toArray, List.set_cons_zero, List.set_cons_succ]
          refine wpAnyH_ready (rs := [5]) (by kernel_rfl) (by simp) ?_
          refine AllReadyH.cons rfl (fun K hK => ?_) (AllReadyH.nil)
          go_simp
          refine hK.out _ _ (trivial) (fun hHeld => ?_)
          clear hK K
          try simp only [Act.put, List.setIfInBounds_toArray, List.set_cons_zero, List.set_cons_succ]
          refine wpAnyH_ready (rs := [6]) (by kernel_rfl) (by simp) ?_
          refine AllReadyH.cons rfl (fun K hK => ?_) (AllReadyH.nil)
          refine step_app_ints rfl _ _ rfl w.heap.size j v (nodesAt l (p + 13) j) rfl H2.out.2.2 (some ⟨w2.heap.size, 0, none⟩) 1 1 [((nAt l (p + 13 + j) 1 : Nat) : Int)] rfl (ints_one w2 _ hX.out) (fun e => by cases e) (by omega) (H2.out.1) ?_
          intro v' w3 r1 r2
          obtain ⟨adv, nv, cv, rfl⟩ := owns_slice' r1
          have HST := hid (HSP.out w2 w3 _ H2.out.2.1 r1 r2)
          obtain ⟨y2, fy, -⟩ := HST.out
          clear r1 r2
          refine hK.out _ _ (trivial) (fun hHeld => ?_)
          clear hK K
          refine wpAnyH_take (i := 7) (oi := { dst := some 21, op := Op.fieldAddr 61 (Operand.tmp 3) 1, type := 0, pos := "bytes.go:62", after := #[{ on := 0, ground := Ground.phase }, { on := 1, ground := Ground.phase }, { on := 2, ground := Ground.phase }, { on := 3, ground := Ground.phase }, { on := 4, ground := Ground.phase }, { on := 5, ground := Ground.phase }, { on := 6, ground := Ground.phase }], guard := none }) (v := ?_) rfl (by kernel_rfl) (by kernel_rfl) (by kernel_rfl) (fun _ _ _ h => h) (Or.inl ⟨by rfl, ?_⟩) hHeld ?_
          rotate_left
          · intro w hSw; (try dsimp only at hSw); go_simp; try with_reducible rfl
          refine wpAnyH_take (i := 8) (oi := { dst := some 22, op := Op.fieldAddr 54 (Operand.tmp 21) 1, type := 0, pos := "bytes.go:62", after := #[{ on := 7, ground := Ground.data }, { on := 0, ground := Ground.phase }, { on := 1, ground := Ground.phase }, { on := 2, ground := Ground.phase }, { on := 3, ground := Ground.phase }, { on := 4, ground := Ground.phase }, { on := 5, ground := Ground.phase }, { on := 6, ground := Ground.phase }], guard := none }) (v := ?_) rfl (by kernel_rfl) (by kernel_rfl) (by kernel_rfl) (fun _ _ _ h => h) (Or.inl ⟨by rfl, ?_⟩) hHeld ?_
          rotate_left
          · intro w hSw; (try dsimp only at hSw); go_simp; try with_reducible rfl
          refine wpAnyH_ready (rs := [9]) (by kernel_rfl) (by simp) ?_
          refine AllReadyH.cons rfl (fun K hK => ?_) (AllReadyH.nil)
          go_simp
          refine hK.out _ _ (trivial) (fun hHeld => ?_)
          clear hK K
          refine wpAnyH_done (by kernel_rfl) ?_ _
          go_wp2_with fail
          exact ⟨⟨j + 1, by omega, by omega, by go_num, _, hid HST.out.2.2⟩, by simp [intOf]; omega⟩
        · skip
          go_simp
          go_wp2_with (go_at_call 59; refine (HNU.out _ ((Below.refl _ wr).drew)).mono ?_; rintro x w2 ⟨rfl, hh⟩; have H2 := hid (HC2.out _ hh.out); clear hh)
          refine hK.out _ _ (trivial) (fun hHeld => ?_)
          clear hK K
          try simp only [Act.put, List.setIfInBounds_toArray, List.set_cons_zero, List.set_cons_succ]
          refine wpAnyH_ready (rs := [2, 5]) (by kernel_rfl) (by simp) ?_
          refine AllReadyH.cons rfl (fun K hK => ?_) (AllReadyH.cons rfl (fun K hK => ?_) (AllReadyH.nil))
          · skip
            have k2 : w2.cell? ⟨b3, 2, none⟩ = some v := H2.out.2.1.2.1.cell 2
            go_simp
            refine hK.out _ _ (trivial) (fun hHeld => ?_)
            clear hK K
            try simp only [Act.put, List.setIfInBounds_toArray, List.set_cons_zero, List.set_cons_succ]
            refine wpAnyH_ready (rs := [5]) (by kernel_rfl) (by simp) ?_
            refine AllReadyH.cons rfl (fun K hK => ?_) (AllReadyH.nil)
            go_simp
            refine hK.out _ _ (trivial) (fun hHeld => ?_)
            clear hK K
            try simp only [Act.put, List.setIfInBounds_toArray, List.set_cons_zero, List.set_cons_succ]
            refine wpAnyH_ready (rs := [6]) (by kernel_rfl) (by simp) ?_
            refine AllReadyH.cons rfl (fun K hK => ?_) (AllReadyH.nil)
            refine step_app_ints rfl _ _ rfl w.heap.size j v (nodesAt l (p + 13) j) rfl H2.out.2.2 (some ⟨w2.heap.size, 0, none⟩) 1 1 [((nAt l (p + 13 + j) 1 : Nat) : Int)] rfl (ints_one w2 _ hX.out) (fun e => by cases e) (by omega) (H2.out.1) ?_
            intro v' w3 r1 r2
            obtain ⟨adv, nv, cv, rfl⟩ := owns_slice' r1
            have HST := hid (HSP.out w2 w3 _ H2.out.2.1 r1 r2)
            obtain ⟨y2, fy, -⟩ := HST.out
            clear r1 r2
            refine hK.out _ _ (trivial) (fun hHeld => ?_)
            clear hK K
            refine wpAnyH_take (i := 7) (oi := { dst := some 21, op := Op.fieldAddr 61 (Operand.tmp 3) 1, type := 0, pos := "bytes.go:62", after := #[{ on := 0, ground := Ground.phase }, { on := 1, ground := Ground.phase }, { on := 2, ground := Ground.phase }, { on := 3, ground := Ground.phase }, { on := 4, ground := Ground.phase }, { on := 5, ground := Ground.phase }, { on := 6, ground := Ground.phase }], guard := none }) (v := ?_) rfl (by kernel_rfl) (by kernel_rfl) (by kernel_rfl) (fun _ _ _ h => h) (Or.inl ⟨by rfl, ?_⟩) hHeld ?_
            rotate_left
            · intro w hSw; (try dsimp only at hSw); go_simp; try with_reducible rfl
            refine wpAnyH_take (i := 8) (oi := { dst := some 22, op := Op.fieldAddr 54 (Operand.tmp 21) 1, type := 0, pos := "bytes.go:62", after := #[{ on := 7, ground := Ground.data }, { on := 0, ground := Ground.phase }, { on := 1, ground := Ground.phase }, { on := 2, ground := Ground.phase }, { on := 3, ground := Ground.phase }, { on := 4, ground := Ground.phase }, { on := 5, ground := Ground.phase }, { on := 6, ground := Ground.phase }], guard := none }) (v := ?_) rfl (by kernel_rfl) (by kernel_rfl) (by kernel_rfl) (fun _ _ _ h => h) (Or.inl ⟨by rfl, ?_⟩) hHeld ?_
            rotate_left
            · intro w hSw; (try dsimp only at hSw); go_simp; try with_reducible rfl
            refine wpAnyH_ready (rs := [9]) (by kernel_rfl) (by simp) ?_
            refine AllReadyH.cons rfl (fun K hK => ?_) (AllReadyH.nil)
            go_simp
            refine hK.out _ _ (trivial) (fun hHeld => ?_)
            clear hK K
            refine wpAnyH_done (by kernel_rfl) ?_ _
            go_wp2_with fail
            exact ⟨⟨j + 1, by omega, by omega, by go_num, _, hid HST.out.2.2⟩, by simp [intOf]; omega⟩
          · skip
            go_simp
            refine hK.out _ _ (trivial) (fun hHeld => ?_)
            clear hK K
            try simp only [Act.put, List.setIfInBounds_toArray, List.set_cons_zero, List.set_cons_succ]
            refine wpAnyH_ready (rs := [2]) (by kernel_rfl) (by simp) ?_
            refine AllReadyH.cons rfl (fun K hK => ?_) (AllReadyH.nil)
            have k2 : (w2.alloc (.cells #[.int .i64 ((nAt l (p + 13 + j) 1 : Nat) : Int)] 3)).cell? ⟨b3, 2, none⟩ = some v := (H2.out.2.1.2.1.later ((Below.refl _ _).alloc (Nat.le_refl _) _)).cell 2
            go_simp
            refine hK.out _ _ (trivial) (fun hHeld => ?_)
            clear hK K
            try simp only [Act.put, List.setIfInBounds_toArray, List.set_cons_zero, List.set_cons_succ]
            refine wpAnyH_ready (rs := [6]) (by kernel_rfl) (by simp) ?_
            refine AllReadyH.cons rfl (fun K hK => ?_) (AllReadyH.nil)
            refine step_app_ints rfl _ _ rfl w.heap.size j v (nodesAt l (p + 13) j) rfl H2.out.2.2 (some ⟨w2.heap.size, 0, none⟩) 1 1 [((nAt l (p + 13 + j) 1 : Nat) : Int)] rfl (ints_one w2 _ hX.out) (fun e => by cases e) (by omega) (H2.out.1) ?_
            intro v' w3 r1 r2
            obtain ⟨adv, nv, cv, rfl⟩ := owns_slice' r1
            have HST := hid (HSP.out w2 w3 _ H2.out.2.1 r1 r2)
            obtain ⟨y2, fy, -⟩ := HST.out
            clear r1 r2
            refine hK.out _ _ (trivial) (fun hHeld => ?_)
            clear hK K
            refine wpAnyH_take (i := 7) (oi := { dst := some 21, op := Op.fieldAddr 61 (Operand.tmp 3) 1, type := 0, pos := "bytes.go:62", after := #[{ on := 0, ground := Ground.phase }, { on := 1, ground := Ground.phase }, { on := 2, ground := Ground.phase }, { on := 3, ground := Ground.phase }, { on := 4, ground := Ground.phase }, { on := 5, ground := Ground.phase }, { on := 6, ground := Ground.phase }], guard := none }) (v := ?_) rfl (by kernel_rfl) (by kernel_rfl) (by kernel_rfl) (fun _ _ _ h => h) (Or.inl ⟨by rfl, ?_⟩) hHeld ?_
            rotate_left
            · intro w hSw; (try dsimp only at hSw); go_simp; try with_reducible rfl
            refine wpAnyH_take (i := 8) (oi := { dst := some 22, op := Op.fieldAddr 54 (Operand.tmp 21) 1, type := 0, pos := "bytes.go:62", after := #[{ on := 7, ground := Ground.data }, { on := 0, ground := Ground.phase }, { on := 1, ground := Ground.phase }, { on := 2, ground := Ground.phase }, { on := 3, ground := Ground.phase }, { on := 4, ground := Ground.phase }, { on := 5, ground := Ground.phase }, { on := 6, ground := Ground.phase }], guard := none }) (v := ?_) rfl (by kernel_rfl) (by kernel_rfl) (by kernel_rfl) (fun _ _ _ h => h) (Or.inl ⟨by rfl, ?_⟩) hHeld ?_
            rotate_left
            · intro w hSw; (try dsimp only at hSw); go_simp; try with_reducible rfl
            refine wpAnyH_ready (rs := [9]) (by kernel_rfl) (by simp) ?_
            refine AllReadyH.cons rfl (fun K hK => ?_) (AllReadyH.nil)
            go_simp
            refine hK.out _ _ (trivial) (fun hHeld => ?_)
            clear hK K
            refine wpAnyH_done (by kernel_rfl) ?_ _
            go_wp2_with fail
            exact ⟨⟨j + 1, by omega, by omega, by go_num, _, hid HST.out.2.2⟩, by simp [intOf]; omega⟩
      · have HNU : Hid (∀ X, Below wr.heap.size wr X → Calls Try.prog 59 #[.pointer (some ⟨R, 0, none⟩), .int .i64 1] X fun e w' => e = .panicked (refusal 22) ∧ Chg [R] w w') := hid (fun X hX => (num_no (s := 1) (Blk.later HW.out.rd hX) (HBT.out X (Chg.of hX)).1 (by omega) (by omega) a4 (by omega)).mono (fun e w' h => ⟨h.1, (HBT.out X (Chg.of hX)).2.trans (Chg.of h.2) (fun k hk => Or.inl hk)⟩))
        have HNE : Hid (¬ partEnd l p ≤ len) := hid (by rw [HPE.out.1]; omega)
        have HFI : Hid (∀ X, Chg [R] w X → Chg [R] w X) := hid (fun X hX => hX)
        go_wp2_with fail
        refine wp_region_held_drew (S := fun W => True) (by kernel_rfl) (trivial) (fun hHeld => ?_)
        refine wpAnyH_take (i := 0) (oi := { dst := some 14, op := Op.fieldAddr 61 (Operand.tmp 3) 1, type := 0, pos := "bytes.go:62", after := #[], guard := none }) (v := ?_) rfl (by kernel_rfl) (by kernel_rfl) (by kernel_rfl) (fun _ _ _ h => h) (Or.inl ⟨by rfl, ?_⟩) hHeld ?_
        rotate_left
        · intro w hSw; (try dsimp only at hSw); go_simp; try with_reducible rfl
        try simp only [Act.put, List.setIfInBounds_toArray, List.set_cons_zero, List.set_cons_succ]
        refine wpAnyH_take (i := 1) (oi := { dst := some 15, op := Op.fieldAddr 54 (Operand.tmp 14) 1, type := 0, pos := "bytes.go:62", after := #[{ on := 0, ground := Ground.data }], guard := none }) (v := ?_) rfl (by kernel_rfl) (by kernel_rfl) (by kernel_rfl) (fun _ _ _ h => h) (Or.inl ⟨by rfl, ?_⟩) hHeld ?_
        rotate_left
        · intro w hSw; (try dsimp only at hSw); go_simp; try with_reducible rfl
        try simp only [Act.put, List.setIfInBounds_toArray, List.set_cons_zero, List.set_cons_succ]
        refine wpAnyH_take (i := 3) (oi := { dst := some 17, op := Op.move (Operand.tmp 0), type := 96, pos := "bytes.go:62", after := #[], guard := none }) (v := ?_) rfl (by kernel_rfl) (by kernel_rfl) (by kernel_rfl) (fun _ _ _ h => h) (Or.inl ⟨by rfl, ?_⟩) hHeld ?_
        rotate_left
        · intro w hSw; (try dsimp only at hSw); go_simp; try with_reducible rfl
        try simp only [Act.put, List.setIfInBounds_toArray, List.set_cons_zero, List.set_cons_succ]
        refine wpAnyH_ready (rs := [2, 4]) (by kernel_rfl) (by simp) ?_
        refine AllReadyH.cons rfl (fun K hK => ?_) (AllReadyH.cons rfl (fun K hK => ?_) (AllReadyH.nil))
        · skip
          have k2 : wr.cell? ⟨b3, 2, none⟩ = some v := HV.out
          go_simp
          refine hK.out _ _ (trivial) (fun hHeld => ?_)
          clear hK K
          try simp only [Act.put, List.setIfInBounds_toArray, List.set_cons_zero, List.set_cons_succ]
          refine wpAnyH_ready (rs := [4]) (by kernel_rfl) (by simp) ?_
          refine AllReadyH.cons rfl (fun K hK => ?_) (AllReadyH.nil)
          go_simp
          go_wp2_with (go_at_call 59; refine (HNU.out _ ((Below.refl _ wr).drew)).mono ?_; rintro x w2 ⟨rfl, hb⟩)
          exact ⟨rfl, Or.inr ⟨HNE.out, rfl⟩, HFI.out _ hb⟩
        · skip
          go_simp
          go_wp2_with (go_at_call 59; refine (HNU.out _ ((Below.refl _ wr).drew)).mono ?_; rintro x w2 ⟨rfl, hb⟩)
          exact ⟨rfl, Or.inr ⟨HNE.out, rfl⟩, HFI.out _ hb⟩
    · obtain rfl : j = K := by omega
      have hlti : decide ((j : Int) < (j : Int)) = false := by simp
      have hoi : OwnI wr w.heap.size v (nodesAt l (p + 13) j) := by have := HW.out.own; unfold OwnI; rw [nodesAt_length]; exact this
      obtain ⟨s, rfl, -, hi, hn, hnew⟩ := hoi.form (fun x hx => by
        unfold nodesAt at hx
        obtain ⟨i, -, rfl⟩ := List.mem_map.1 hx
        have := HRG.out (p + 13 + i) 1
        omega)
      have HNI : Hid (NewI wr w.heap.size (nodesAt l (p + 13) j) s) := hid ⟨hi, hn, fun _ => hnew⟩
      clear hoi hi hn hnew
      have q0 : wr.cell? ⟨b3, 0, none⟩ = some (.int .i64 ((nAt l p 6 : Nat) : Int)) := HW.out.box.cell 0
      have q1 : wr.cell? ⟨b3, 1, none⟩ = some (.int .i64 ((nAt l (p + 6) 6 : Nat) : Int)) := HW.out.box.cell 1
      have q2 : wr.cell? ⟨b3, 2, none⟩ = some (.slice s.ad s.m s.c) := HW.out.box.cell 2
      have z0 : wr.cell? ⟨w.heap.size, 0, none⟩ = some (.int .i64 0) := HW.out.res.cell 0
      have z1 : wr.cell? ⟨w.heap.size, 1, none⟩ = some (.int .i64 0) := HW.out.res.cell 1
      have z2 : wr.cell? ⟨w.heap.size, 2, none⟩ = some (.slice none 0 0) := HW.out.res.cell 2
      have f0 := HW.out.res.free 0
      have f1 := HW.out.res.free 1
      have f2 := HW.out.res.free 2
      go_wp2_with fail
      have m0 := ((HW.out.res.set 0 (.int .i64 ((nAt l p 6 : Nat) : Int))).set 1 (.int .i64 ((nAt l (p + 6) 6 : Nat) : Int))).set 2 (.slice s.ad s.m s.c)
      have s0 : (((wr.setCell ⟨w.heap.size, 0, none⟩ (.int .i64 ((nAt l p 6 : Nat) : Int))).setCell ⟨w.heap.size, 1, none⟩ (.int .i64 ((nAt l (p + 6) 6 : Nat) : Int))).setCell ⟨w.heap.size, 2, none⟩ (.slice s.ad s.m s.c)).cell? ⟨w.heap.size, 0, none⟩ = some (.int .i64 ((nAt l p 6 : Nat) : Int)) := m0.cell 0
      have s1 : (((wr.setCell ⟨w.heap.size, 0, none⟩ (.int .i64 ((nAt l p 6 : Nat) : Int))).setCell ⟨w.heap.size, 1, none⟩ (.int .i64 ((nAt l (p + 6) 6 : Nat) : Int))).setCell ⟨w.heap.size, 2, none⟩ (.slice s.ad s.m s.c)).cell? ⟨w.heap.size, 1, none⟩ = some (.int .i64 ((nAt l (p + 6) 6 : Nat) : Int)) := m0.cell 1
      have s2 : (((wr.setCell ⟨w.heap.size, 0, none⟩ (.int .i64 ((nAt l p 6 : Nat) : Int))).setCell ⟨w.heap.size, 1, none⟩ (.int .i64 ((nAt l (p + 6) 6 : Nat) : Int))).setCell ⟨w.heap.size, 2, none⟩ (.slice s.ad s.m s.c)).cell? ⟨w.heap.size, 2, none⟩ = some (.slice s.ad s.m s.c) := m0.cell 2
      have hcg : Chg [w.heap.size] wr (((wr.setCell ⟨w.heap.size, 0, none⟩ (.int .i64 ((nAt l p 6 : Nat) : Int))).setCell ⟨w.heap.size, 1, none⟩ (.int .i64 ((nAt l (p + 6) 6 : Nat) : Int))).setCell ⟨w.heap.size, 2, none⟩ (.slice s.ad s.m s.c)) := (((Chg.refl _ wr).set (Or.inl (by simp)) _ _).set (Or.inl (by simp)) _ _).set (Or.inl (by simp)) _ _
      refine bodyPost_ret (v := .agg #[.int .i64 ((nAt l p 6 : Nat) : Int), .int .i64 ((nAt l (p + 6) 6 : Nat) : Int), .slice s.ad s.m s.c]) (by simp [results, Try.results60, go_sem, s0, s1, s2]) rfl ⟨Or.inl ⟨s, rfl, hid ⟨by rw [HPE.out.1]; exact hjl, ?_, ?_⟩⟩, ?_⟩
      · rw [HPE.out.2]
        exact HNI.out.chg hcg (fun g hg cur e => by
          simp at hg
          subst hg
          rw [HW.out.res] at e
          simp at e)
      · rw [HPE.out.1]
        exact Blk.chg HW.out.rd hcg (by simp; omega)
      · exact HW.out.chg.trans hcg (fun k hk => by simp at hk; subst hk; exact Or.inr (Nat.le_refl _))
end Go.Proofs.Ythadagpfmacemaa
