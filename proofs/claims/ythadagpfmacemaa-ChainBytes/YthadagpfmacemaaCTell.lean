/- part of package chain's reader (by gencpart.py). -/
import Derived.Test.YthadagpfmacemaaCNum
import Derived.Test.YthadagpfmacemaaLConf
import Derived.Test.YthadagpfmacemaaPut
namespace Go.Proofs.Ythadagpfmacemaa
open Go.RowKit
variable {w w' : World} {ad : Option Addr} {len cap : Nat} {l : List Nat} {R p : Nat}

theorem ownsR_chg {w w' : World} {base E z n : Nat} {v : Value} {xs : List Value} {F : List Nat} (h : w.ownsRow base E z v n xs) (hb : Chg F w w') (hn : ∀ g ∈ v.ownBlock.toList, g ∉ F) : w'.ownsRow base E z v n xs := by
  refine ⟨h.1, ?_⟩
  rcases h.2 with h2 | ⟨g, cap, cur, hv, hgb, hg, r⟩
  · exact Or.inl h2
  · refine Or.inr ⟨g, cap, cur, hv, hgb, ?_, r⟩
    have hlt : g < w.heap.size := by
      rcases Nat.lt_or_ge g w.heap.size with hlt | hge
      · exact hlt
      · rw [Array.getElem?_eq_none hge] at hg; cases hg
    rw [hb.block g hlt (hn g (by rw [hv]; simp [Value.ownBlock]))]
    exact hg
theorem owns_slice' {w : World} {base E z n : Nat} {v : Value} {xs : List Value} (h : w.ownsRow base E z v n xs) : ∃ ad n' c, v = .slice ad n' c := by
  rcases h.2 with ⟨rfl, -⟩ | ⟨g, cap, cur, rfl, -⟩
  · exact ⟨_, _, _, rfl⟩
  · exact ⟨_, _, _, rfl⟩
theorem ints_one (w : World) (x : Int) (hx : -9223372036854775808 ≤ x ∧ x ≤ 9223372036854775807) : Ints (w.alloc (.cells #[.int .i64 x] 3)) [x] (some ⟨w.heap.size, 0, none⟩) 1 1 := by
  have hb : Blk (w.alloc (.cells #[.int .i64 x] 3)) w.heap.size #[.int .i64 x] 3 := heap_alloc_new w _
  refine ⟨rfl, Nat.le_refl _, by unfold maxLen; omega, Or.inr ⟨w.heap.size, 0, rfl, hb.lt, fun i hi => ?_⟩, fun y hy => by simp at hy; subst hy; exact hx⟩
  obtain rfl : i = 0 := by omega
  exact hb.cell 0
theorem typed_ne {w : World} {base E z n : Nat} {v : Value} {xs : List Value} (h : w.ownsRow base E z v n xs) {g : Nat} {cs : Array Value} {T : TypeId} (hb : Blk w g cs T) (hT : T ≠ E) : g ∉ v.ownBlock.toList := fun hm => by
  obtain ⟨cur, hc⟩ := owns_typed h g hm
  rw [hb] at hc
  simp at hc
  exact hT hc.2
/-- part in its midst: j nodes are read. -/
structure PartW (w : World) (R p : Nat) (ad : Option Addr) (len cap : Nat) (l : List Nat) (b3 j : Nat) (v : Value) (W : World) : Prop where
  rd : RdC W R (p + 13 + j) ad len cap
  chg : Chg [R] w W
  res : Blk W w.heap.size #[.int .i64 0, .int .i64 0, .slice none 0 0] 61
  box : Blk W b3 #[.int .i64 ((nAt l p 6 : Nat) : Int), .int .i64 ((nAt l (p + 6) 6 : Nat) : Int), v] 61
  own : W.ownsRow w.heap.size 3 1 v j (intsV (nodesAt l (p + 13) j))
theorem PartW.num {b3 j : Nat} {v : Value} {W w2 : World} (h : PartW w R p ad len cap l b3 j v W) (hne : R ≠ w.heap.size) (h3 : R ≠ b3) (hw : Chg [R] W w2) (hr : RdC w2 R (p + 13 + j + 1) ad len cap) :
    Blk w2 b3 #[.int .i64 ((nAt l p 6 : Nat) : Int), .int .i64 ((nAt l (p + 6) 6 : Nat) : Int), v] 61 ∧ Blk w2 w.heap.size #[.int .i64 0, .int .i64 0, .slice none 0 0] 61 ∧ w2.ownsRow w.heap.size 3 1 v j (intsV (nodesAt l (p + 13) j)) ∧ Chg [R] w w2 ∧ RdC w2 R (p + 13 + j + 1) ad len cap :=
  ⟨h.box.chg hw (by simpa using fun e => h3 e.symm), h.res.chg hw (by simpa using fun e => hne e.symm), ownsR_chg h.own hw (fun g hg hm => by simp at hm; subst hm; exact typed_ne h.own h.rd (by decide) hg), h.chg.trans hw (fun k hk => Or.inl hk), hr⟩
theorem PartW.round {b3 j : Nat} {v v' : Value} {W w2 w3 : World} (h : PartW w R p ad len cap l b3 j v W) (hne : R ≠ w.heap.size) (h3 : R ≠ b3) (h4 : b3 ≠ w.heap.size) (hb3 : w.heap.size ≤ b3) (hw : Chg [R] W w2) (hr : RdC w2 R (p + 13 + j + 1) ad len cap) (o : Obj)
    (r1 : w3.ownsRow w.heap.size 3 1 v' (j + 1) (intsV (nodesAt l (p + 13) j ++ [((nAt l (p + 13 + j) 1 : Nat) : Int)]))) (r2 : (w2.alloc o).grownBy w3 v.ownBlock) :
    w3.cell? ⟨b3, 2, none⟩ = some v ∧ w3.frozen? ⟨b3, 2, none⟩ = false ∧ PartW w R p ad len cap l b3 (j + 1) v' (w3.setCell ⟨b3, 2, none⟩ v') := by
  obtain ⟨k3, kz, ko, kc, kr⟩ := h.num hne h3 hw hr
  have ca : Chg [] w2 (w2.alloc o) := Chg.of ((Below.refl _ _).alloc (Nat.le_refl _) _)
  have cg := grown_chg r2
  have n3 := typed_ne ko k3 (by decide)
  have nz := typed_ne ko kz (by decide)
  have nr := typed_ne ko kr (by decide)
  have q3 := (k3.chg ca (by simp)).chg cg n3
  have qz := (kz.chg ca (by simp)).chg cg nz
  have qr : RdC w3 R (p + 13 + j + 1) ad len cap := (Blk.chg (Blk.chg kr ca (by simp)) cg nr)
  have cs : Chg [b3] w3 (w3.setCell ⟨b3, 2, none⟩ v') := (Chg.refl _ _).set (Or.inl (by simp)) _ _
  refine ⟨q3.cell 2, q3.free 2, ?_, ?_, qz.other (fun e => h4 e.symm) _ _, by have := q3.set 2 v'; exact this, ?_⟩
  · exact Blk.other qr h3 _ _
  · refine ((kc.trans ca (fun k hk => by cases hk)).trans cg (fun k hk => ?_)).trans cs (fun k hk => by simp at hk; subst hk; exact Or.inr hb3)
    exact Or.inr (owns_base ko k (by simpa using hk))
  · rw [nodesAt_succ]
    exact ownsR_chg r1 cs (fun g hg hm => by simp at hm; subst hm; exact typed_ne r1 q3 (by decide) hg)
set_option maxRecDepth 100000 in
set_option maxHeartbeats 4000000 in
theorem part_any (hR : RdC w R p ad len cap) (hB : Bts w ad len cap l R) (hpl : p ≤ len) :
    Calls Try.prog 60 #[.pointer (some ⟨R, 0, none⟩)] w fun e w' => ((∃ s : Sl, e = .returned (.agg #[.int .i64 (partAt l p).first, .int .i64 (partAt l p).id, .slice s.ad s.m s.c]) ∧ Hid (partEnd l p ≤ len ∧ NewI w' w.heap.size (partAt l p).nodes s ∧ RdC w' R (partEnd l p) ad len cap)) ∨ (¬ partEnd l p ≤ len ∧ e = .panicked (refusal 22))) ∧ Chg [R] w w' := by
  have hRl : R < w.heap.size := Blk.lt hR
  have hlt := hB.lt
  have n0 : Below w.heap.size w (w.alloc (.cells #[.int .i64 0, .int .i64 0, .slice none 0 0] 61)) := (Below.refl _ _).alloc (Nat.le_refl _) _
  have hcn : nAt l (p + 12) 1 < 256 := nAt_one l hlt _
  have hmx := hB.max
  have HN0 : Hid (∀ (X : World), Chg [R] (w.alloc (.cells #[.int .i64 0, .int .i64 0, .slice none 0 0] 61)) X → Bts X ad len cap l R ∧ Blk X w.heap.size #[.int .i64 0, .int .i64 0, .slice none 0 0] 61 ∧ Chg [R] w X) := hid (fun X hX => ⟨(hB.later n0).chg hX (fun b off e hl hm => by simp at hm; exact hB.ne b off e hl hm), (show Blk (w.alloc (.cells #[.int .i64 0, .int .i64 0, .slice none 0 0] 61)) w.heap.size #[.int .i64 0, .int .i64 0, .slice none 0 0] 61 from heap_alloc_new w _).chg hX (by simp; omega), (Chg.of n0).trans hX (fun k hk => Or.inl hk)⟩)
  have HBW : Hid (∀ X, Chg [R] w X → Bts X ad len cap l R) := hid (fun X hX => hB.chg hX (fun b off e hl hm => by simp at hm; exact hB.ne b off e hl hm))
  have HR0 : Hid (RdC (w.alloc (.cells #[.int .i64 0, .int .i64 0, .slice none 0 0] 61)) R p ad len cap) := hid (hR.later n0)
  have HRG : Hid (∀ q s, nAt l q s < 281474976710656 ∨ 6 < s) := hid (fun q s => by by_cases h6 : s ≤ 6; exact Or.inl (nAt_lt l hlt q s h6); exact Or.inr (by omega))
  obtain ⟨K, hK⟩ : ∃ K, nAt l (p + 12) 1 = K := ⟨_, rfl⟩
  rw [hK] at hcn
  have HPE : Hid (partEnd l p = p + 13 + K ∧ (partAt l p).nodes = nodesAt l (p + 13) K) := hid (by unfold partEnd partAt; rw [hK]; exact ⟨rfl, rfl⟩)
  have HK := hid hK
  have HOK : Hid (∀ (X : World) (q s : Nat), Chg [R] (w.alloc (.cells #[.int .i64 0, .int .i64 0, .slice none 0 0] 61)) X → RdC X R q ad len cap → 1 ≤ s → s ≤ 6 → q + s ≤ len → Calls Try.prog 59 #[.pointer (some ⟨R, 0, none⟩), .int .i64 (s : Int)] X fun e w' => e = .returned (.int .i64 ((nAt l q s : Nat) : Int)) ∧ Hid (RdC w' R (q + s) ad len cap ∧ Chg [R] X w')) := hid (fun X q s hX hr h1 h6 hq => num_ok hr (HN0.out X hX).1 h1 h6 hq)
  have HNO : Hid (∀ (X : World) (q s : Nat), Chg [R] (w.alloc (.cells #[.int .i64 0, .int .i64 0, .slice none 0 0] 61)) X → RdC X R q ad len cap → 1 ≤ s → s ≤ 6 → ¬ q + s ≤ len → q ≤ len → Calls Try.prog 59 #[.pointer (some ⟨R, 0, none⟩), .int .i64 (s : Int)] X fun e w' => e = .panicked (refusal 22) ∧ Hid (Chg [R] X w')) := hid (fun X q s hX hr h1 h6 hq hl => (num_no hr (HN0.out X hX).1 h1 h6 hq (by omega)).mono (fun e w' h => ⟨h.1, hid (Chg.of h.2)⟩))
  have C0 : Hid (Chg [R] (w.alloc (.cells #[.int .i64 0, .int .i64 0, .slice none 0 0] 61)) (w.alloc (.cells #[.int .i64 0, .int .i64 0, .slice none 0 0] 61))) := hid (Chg.refl _ _)
  clear hR hB n0 hlt hK
  by_cases a1 : p + 6 ≤ len
  case neg =>
    have HA : Hid (Calls Try.prog 59 #[.pointer (some ⟨R, 0, none⟩), .int .i64 6] (w.alloc (.cells #[.int .i64 0, .int .i64 0, .slice none 0 0] 61)) fun e w' => e = .panicked (refusal 22) ∧ Hid (Chg [R] (w.alloc (.cells #[.int .i64 0, .int .i64 0, .slice none 0 0] 61)) w')) := hid (HNO.out _ p 6 C0.out HR0.out (by omega) (by omega) a1 hpl)
    have HNE : Hid (¬ partEnd l p ≤ len) := hid (by rw [HPE.out.1]; omega)
    go_enter Try.func60, Try.ntmps60
    go_wp2_with (go_at_call 59; (with_reducible_and_instances (refine HA.out.mono ?_)); rintro x w1 ⟨rfl, h1⟩)
    exact ⟨rfl, Or.inr ⟨HNE.out, rfl⟩, (HN0.out _ h1.out).2.2⟩
  have HA : Hid (Calls Try.prog 59 #[.pointer (some ⟨R, 0, none⟩), .int .i64 6] (w.alloc (.cells #[.int .i64 0, .int .i64 0, .slice none 0 0] 61)) fun e w' => e = .returned (.int .i64 ((nAt l p 6 : Nat) : Int)) ∧ Hid (RdC w' R (p + 6) ad len cap ∧ Chg [R] (w.alloc (.cells #[.int .i64 0, .int .i64 0, .slice none 0 0] 61)) w')) := hid (HOK.out _ p 6 C0.out HR0.out (by omega) (by omega) a1)
  by_cases a2 : p + 6 + 6 ≤ len
  case neg =>
    have HNE : Hid (¬ partEnd l p ≤ len) := hid (by rw [HPE.out.1]; omega)
    have HA2 : Hid (∀ X, RdC X R (p + 6) ad len cap ∧ Chg [R] (w.alloc (.cells #[.int .i64 0, .int .i64 0, .slice none 0 0] 61)) X → Calls Try.prog 59 #[.pointer (some ⟨R, 0, none⟩), .int .i64 6] X fun e w' => e = .panicked (refusal 22) ∧ Hid (Chg [R] X w')) := hid (fun X hX => HNO.out X (p + 6) 6 hX.2 hX.1 (by omega) (by omega) a2 (by omega))
    go_enter Try.func60, Try.ntmps60
    go_wp2_with first
      | (go_at_call 59; (with_reducible_and_instances (refine HA.out.mono ?_)); rintro x w1 ⟨rfl, h1⟩)
      | (go_at_call 59; (with_reducible_and_instances (refine (HA2.out _ h1.out).mono ?_)); rintro x w2 ⟨rfl, h2⟩)
    exact ⟨rfl, Or.inr ⟨HNE.out, rfl⟩, (HN0.out _ (h1.out.2.trans h2.out (fun k hk => Or.inl hk))).2.2⟩
  have HA2 : Hid (∀ X, RdC X R (p + 6) ad len cap ∧ Chg [R] (w.alloc (.cells #[.int .i64 0, .int .i64 0, .slice none 0 0] 61)) X → Calls Try.prog 59 #[.pointer (some ⟨R, 0, none⟩), .int .i64 6] X fun e w' => e = .returned (.int .i64 ((nAt l (p + 6) 6 : Nat) : Int)) ∧ Hid (RdC w' R (p + 12) ad len cap ∧ Chg [R] (w.alloc (.cells #[.int .i64 0, .int .i64 0, .slice none 0 0] 61)) w')) := hid (fun X hX => (HOK.out X (p + 6) 6 hX.2 hX.1 (by omega) (by omega) a2).mono (fun e w' h => ⟨h.1, hid ⟨by have := h.2.out.1; rwa [show p + 6 + 6 = p + 12 by omega] at this, hX.2.trans h.2.out.2 (fun k hk => Or.inl hk)⟩⟩))
  have HAL : Hid (∀ (X : World), RdC X R (p + 12) ad len cap ∧ Chg [R] (w.alloc (.cells #[.int .i64 0, .int .i64 0, .slice none 0 0] 61)) X → RdC (X.alloc (.cells #[.int .i64 ((nAt l p 6 : Nat) : Int), .int .i64 ((nAt l (p + 6) 6 : Nat) : Int), .slice none 0 0] 61)) R (p + 12) ad len cap ∧ Chg [R] (w.alloc (.cells #[.int .i64 0, .int .i64 0, .slice none 0 0] 61)) (X.alloc (.cells #[.int .i64 ((nAt l p 6 : Nat) : Int), .int .i64 ((nAt l (p + 6) 6 : Nat) : Int), .slice none 0 0] 61)) ∧ Blk (X.alloc (.cells #[.int .i64 ((nAt l p 6 : Nat) : Int), .int .i64 ((nAt l (p + 6) 6 : Nat) : Int), .slice none 0 0] 61)) X.heap.size #[.int .i64 ((nAt l p 6 : Nat) : Int), .int .i64 ((nAt l (p + 6) 6 : Nat) : Int), .slice none 0 0] 61 ∧ w.heap.size + 1 ≤ X.heap.size) := hid (fun X hX => by
    have nb := (Below.refl X.heap.size X).alloc (Nat.le_refl _) (.cells #[.int .i64 ((nAt l p 6 : Nat) : Int), .int .i64 ((nAt l (p + 6) 6 : Nat) : Int), .slice none 0 0] 61)
    exact ⟨Blk.later hX.1 nb, hX.2.trans (Chg.of nb) (fun k hk => Or.inl hk), heap_alloc_new X _, by have := hX.2.size; simpa using this⟩)
  by_cases a3 : p + 12 + 1 ≤ len
  case neg =>
    have HNE : Hid (¬ partEnd l p ≤ len) := hid (by rw [HPE.out.1]; omega)
    go_enter Try.func60, Try.ntmps60
    go_wp2_with first
      | (go_at_call 59; (with_reducible_and_instances (refine HA.out.mono ?_)); rintro x w1 ⟨rfl, h1⟩)
      | (go_at_call 59; (with_reducible_and_instances (refine (HA2.out _ h1.out).mono ?_)); rintro x w2 ⟨rfl, h2⟩; have h2a := HAL.out w2 h2.out; have HA3 := HNO.out _ (p + 12) 1 h2a.2.1 h2a.1 (by omega) (by omega) a3 (by omega))
      | (go_at_call 59; refine HA3.mono ?_; rintro x w3 ⟨rfl, h3⟩)
    exact ⟨rfl, Or.inr ⟨HNE.out, rfl⟩, (HN0.out _ (h2a.2.1.trans h3.out (fun k hk => Or.inl hk))).2.2⟩
  go_enter Try.func60, Try.ntmps60
  go_wp2_with first
    | (go_at_call 59; (with_reducible_and_instances (refine HA.out.mono ?_)); rintro x w1 ⟨rfl, h1⟩)
    | (go_at_call 59; (with_reducible_and_instances (refine (HA2.out _ h1.out).mono ?_)); rintro x w2 ⟨rfl, h2⟩; have h2a := HAL.out w2 h2.out; have HA3 := HOK.out _ (p + 12) 1 h2a.2.1 h2a.1 (by omega) (by omega) a3; rw [HK.out] at HA3; have H2A := hid h2a; clear h2a)
    | (go_at_call 59; refine HA3.mono ?_; rintro x w3 ⟨rfl, h3⟩; clear HA3)
  have HW0 : Hid (PartW w R p ad len cap l w2.heap.size 0 (.slice none 0 0) w3) := hid (by
    have q := H2A.out
    have c3 := q.2.1.trans h3.out.2 (fun k hk => Or.inl hk)
    refine ⟨by have := h3.out.1; rwa [show p + 12 + 1 = p + 13 + 0 by omega] at this, (HN0.out _ c3).2.2, (HN0.out _ c3).2.1, q.2.2.1.chg h3.out.2 (by simp; have := q.2.2.2; omega), World.ownsRow_nil _ _ _ _⟩)
  have hb3 := H2A.out.2.2.2
  clear h1 h2 h3 H2A HA HA2 HAL C0 HR0
  generalize w2.heap.size = b3 at *
  go_loopw [12] (fun i wr => ∃ j : Nat, j ≤ K ∧ p + 13 + j ≤ len ∧ i = .int .i64 j ∧ ∃ v, Hid (PartW w R p ad len cap l b3 j v wr)) (fun i _ => K - (intOf i).toNat)
  case atStart => exact ⟨0, by omega, by omega, rfl, _, HW0⟩
  case round =>
    obtain ⟨j, hj, hjl, rfl, v, HW⟩ := hrel
    clear HW0
    by_cases hjk : j < K
    · have hlti : decide ((j : Int) < (K : Int)) = true := by simp; omega
      have HV := hid (HW.out.box.cell 2)
      have HBT : Hid (∀ X, Chg [R] wr X → Bts X ad len cap l R ∧ Chg [R] w X) := hid (fun X hX => by
        have := HW.out.chg.trans hX (fun k hk => Or.inl hk)
        exact ⟨HBW.out X this, this⟩)
      by_cases a4 : p + 13 + j + 1 ≤ len
      · have HNU : Hid (∀ X, Below wr.heap.size wr X → Calls Try.prog 59 #[.pointer (some ⟨R, 0, none⟩), .int .i64 1] X fun e w' => e = .returned (.int .i64 ((nAt l (p + 13 + j) 1 : Nat) : Int)) ∧ Hid (RdC w' R (p + 13 + j + 1) ad len cap ∧ Chg [R] wr w')) := hid (fun X hX => (num_ok (s := 1) (Blk.later HW.out.rd hX) (HBT.out X (Chg.of hX)).1 (by omega) (by omega) a4).mono (fun e w' h => ⟨h.1, hid ⟨h.2.out.1, (Chg.of hX).trans h.2.out.2 (fun k hk => Or.inl hk)⟩⟩))
        have hX : Hid (-9223372036854775808 ≤ ((nAt l (p + 13 + j) 1 : Nat) : Int) ∧ ((nAt l (p + 13 + j) 1 : Nat) : Int) ≤ 9223372036854775807) := hid (by have := (HRG.out (p + 13 + j) 1); omega)
        have HC2 : Hid (∀ w2, (RdC w2 R (p + 13 + j + 1) ad len cap ∧ Chg [R] wr w2) → w.heap.size ≤ (w2.alloc (.cells #[.int .i64 ((nAt l (p + 13 + j) 1 : Nat) : Int)] 3)).heap.size ∧ (Chg [R] wr w2 ∧ Blk w2 b3 #[.int .i64 ((nAt l p 6 : Nat) : Int), .int .i64 ((nAt l (p + 6) 6 : Nat) : Int), v] 61 ∧ RdC w2 R (p + 13 + j + 1) ad len cap) ∧ (w2.alloc (.cells #[.int .i64 ((nAt l (p + 13 + j) 1 : Nat) : Int)] 3)).ownsRow w.heap.size 3 1 v j (intsV (nodesAt l (p + 13) j))) := hid (fun w2 h2 => by
          obtain ⟨k3, kz, ko, kc, kr⟩ := HW.out.num (by omega) (by omega) h2.2 h2.1
          exact ⟨by have := kc.size; simp; omega, ⟨h2.2, k3, kr⟩, own_kept ko ((Below.refl _ _).alloc (Nat.le_refl _) _)⟩)
        have HSP : Hid (∀ (w2 w3 : World) (v' : Value), (Chg [R] wr w2 ∧ Blk w2 b3 #[.int .i64 ((nAt l p 6 : Nat) : Int), .int .i64 ((nAt l (p + 6) 6 : Nat) : Int), v] 61 ∧ RdC w2 R (p + 13 + j + 1) ad len cap) → w3.ownsRow w.heap.size 3 1 v' (j + 1) (intsV (nodesAt l (p + 13) j ++ [((nAt l (p + 13 + j) 1 : Nat) : Int)])) → (w2.alloc (.cells #[.int .i64 ((nAt l (p + 13 + j) 1 : Nat) : Int)] 3)).grownBy w3 v.ownBlock → w3.cell? ⟨b3, 2, none⟩ = some v ∧ w3.frozen? ⟨b3, 2, none⟩ = false ∧ PartW w R p ad len cap l b3 (j + 1) v' (w3.setCell ⟨b3, 2, none⟩ v')) := hid (fun w2 w3 v' h2 r1 r2 => HW.out.round (by omega) (by omega) (by omega) (by omega) h2.1 h2.2.2 _ r1 r2)
        go_wp2_with fail
        refine wp_region_held_drew (S := fun W => True) (by kernel_rfl) (trivial) (fun hHeld => ?_)
        refine wpAnyH_take (i := 0) (oi := { dst := some 14, op := Op.fieldAddr 61 (Operand.tmp 3) 1, type := 0, pos := "bytes.go:62", after := #[], guard := none }) (v := ?_) rfl (by kernel_rfl) (by kernel_rfl) (by kernel_rfl) (fun _ _ _ h => h) (Or.inl ⟨by rfl, ?_⟩) hHeld ?_
        rotate_left
        · intro w hSw; (try dsimp only at hSw); go_simp; try with_reducible rfl
        try simp only [Act.put, List.setIfInBounds_toArray, List.set_cons_zero, List.set_cons_succ]
        refine wpAnyH_take (i := 1) (oi := { dst := some 15, op := Op.fieldAddr 54 (Operand.tmp 14) 1, type := 0, pos := "bytes.go:62", after := #[{ on := 0, ground := Ground.data }], guard := none }) (v := ?_) rfl (by kernel_rfl) (by kernel_rfl) (by kernel_rfl) (fun _ _ _ h => h) (Or.inl ⟨by rfl, ?_⟩) hHeld ?_
        rotate_left
        · intro w hSw; (try dsimp only at hSw); go_simp; try with_reducible rfl
        try simp only [Act.put, List.setIfInBounds_toArray, List.set_cons_zero, List.set_cons_succ]
        refine wpAnyH_take (i := 3) (oi := { dst := some 17, op := Op.move (Operand.tmp 0), type := 96, pos := "bytes.go:62", after := #[], guard := none }) (v := ?_) rfl (by kernel_rfl) (by kernel_rfl) (by kernel_rfl) (fun _ _ _ h => h) (Or.inl ⟨by rfl, ?_⟩) hHeld ?_
        rotate_left
        · intro w hSw; (try dsimp only at hSw); go_simp; try with_reducible rfl
        try simp only [Act.put, List.setIfInBounds_toArray, List.set_cons_zero, List.set_cons_succ]
        refine wpAnyH_ready (rs := [2, 4]) (by kernel_rfl) (by simp) ?_
        refine AllReadyH.cons rfl (fun K hK => ?_) (AllReadyH.cons rfl (fun K hK => ?_) (AllReadyH.nil))
        · skip
          have k2 : wr.cell? ⟨b3, 2, none⟩ = some v := HV.out
          go_simp
          refine hK.out _ _ (trivial) (fun hHeld => ?_)
          clear hK K
          try simp only [Act.put, List.setIfInBounds_toArray, List.set_cons_zero, List.set_cons_succ]
          refine wpAnyH_ready (rs := [4]) (by kernel_rfl) (by simp) ?_
          refine AllReadyH.cons rfl (fun K hK => ?_) (AllReadyH.nil)
          go_simp
          go_wp2_with (go_at_call 59; refine (HNU.out _ ((Below.refl _ wr).drew)).mono ?_; rintro x w2 ⟨rfl, hh⟩; have H2 := hid (HC2.out _ hh.out); clear hh)
          refine hK.out _ _ (trivial) (fun hHeld => ?_)
          clear hK K
          try simp only [Act.put, List.setIfInBounds_toArray, List.set_cons_zero, List.set_cons_succ]
          refine wpAnyH_ready (rs := [5]) (by kernel_rfl) (by simp) ?_
          refine AllReadyH.cons rfl (fun K hK => ?_) (AllReadyH.nil)
          go_simp
          refine hK.out _ _ (trivial) (fun hHeld => ?_)
          clear hK K
          try simp only [Act.put, List.setIfInBounds_toArray, List.set_cons_zero, List.set_cons_succ]
          refine wpAnyH_ready (rs := [6]) (by kernel_rfl) (by simp) ?_
          refine AllReadyH.cons rfl (fun K hK => ?_) (AllReadyH.nil)
          refine step_app_ints rfl _ _ rfl w.heap.size j v (nodesAt l (p + 13) j) rfl H2.out.2.2 (some ⟨w2.heap.size, 0, none⟩) 1 1 [((nAt l (p + 13 + j) 1 : Nat) : Int)] rfl (ints_one w2 _ hX.out) (fun e => by cases e) (by omega) (H2.out.1) ?_
          intro v' w3 r1 r2
          obtain ⟨adv, nv, cv, rfl⟩ := owns_slice' r1
          have HST := hid (HSP.out w2 w3 _ H2.out.2.1 r1 r2)
          obtain ⟨y2, fy, -⟩ := HST.out
          clear r1 r2
          refine hK.out _ _ (trivial) (fun hHeld => ?_)
          clear hK K
          refine wpAnyH_take (i := 7) (oi := { dst := some 21, op := Op.fieldAddr 61 (Operand.tmp 3) 1, type := 0, pos := "bytes.go:62", after := #[{ on := 0, ground := Ground.phase }, { on := 1, ground := Ground.phase }, { on := 2, ground := Ground.phase }, { on := 3, ground := Ground.phase }, { on := 4, ground := Ground.phase }, { on := 5, ground := Ground.phase }, { on := 6, ground := Ground.phase }], guard := none }) (v := ?_) rfl (by kernel_rfl) (by kernel_rfl) (by kernel_rfl) (fun _ _ _ h => h) (Or.inl ⟨by rfl, ?_⟩) hHeld ?_
          rotate_left
          · intro w hSw; (try dsimp only at hSw); go_simp; try with_reducible rfl
          refine wpAnyH_take (i := 8) (oi := { dst := some 22, op := Op.fieldAddr 54 (Operand.tmp 21) 1, type := 0, pos := "bytes.go:62", after := #[{ on := 7, ground := Ground.data }, { on := 0, ground := Ground.phase }, { on := 1, ground := Ground.phase }, { on := 2, ground := Ground.phase }, { on := 3, ground := Ground.phase }, { on := 4, ground := Ground.phase }, { on := 5, ground := Ground.phase }, { on := 6, ground := Ground.phase }], guard := none }) (v := ?_) rfl (by kernel_rfl) (by kernel_rfl) (by kernel_rfl) (fun _ _ _ h => h) (Or.inl ⟨by rfl, ?_⟩) hHeld ?_
          rotate_left
          · intro w hSw; (try dsimp only at hSw); go_simp; try with_reducible rfl
          refine wpAnyH_ready (rs := [9]) (by kernel_rfl) (by simp) ?_
          refine AllReadyH.cons rfl (fun K hK => ?_) (AllReadyH.nil)
          go_simp
          refine hK.out _ _ (trivial) (fun hHeld => ?_)
          clear hK K
          refine wpAnyH_done (by kernel_rfl) ?_ _
          go_wp2_with fail
          exact ⟨⟨j + 1, by omega, by omega, by go_num, _, hid HST.out.2.2⟩, by simp [intOf]; omega⟩
        · skip
          go_simp
          go_wp2_with (go_at_call 59; refine (HNU.out _ ((Below.refl _ wr).drew)).mono ?_; rintro x w2 ⟨rfl, hh⟩; have H2 := hid (HC2.out _ hh.out); clear hh)
          refine hK.out _ _ (trivial) (fun hHeld => ?_)
          clear hK K
          try simp only [Act.put, List.setIfInBounds_toArray, List.set_cons_zero, List.set_cons_succ]
          refine wpAnyH_ready (rs := [2, 5]) (by kernel_rfl) (by simp) ?_
          refine AllReadyH.cons rfl (fun K hK => ?_) (AllReadyH.cons rfl (fun K hK => ?_) (AllReadyH.nil))
          · skip
            have k2 : w2.cell? ⟨b3, 2, none⟩ = some v := H2.out.2.1.2.1.cell 2
            go_simp
            refine hK.out _ _ (trivial) (fun hHeld => ?_)
            clear hK K
            try simp only [Act.put, List.setIfInBounds_toArray, List.set_cons_zero, List.set_cons_succ]
            refine wpAnyH_ready (rs := [5]) (by kernel_rfl) (by simp) ?_
            refine AllReadyH.cons rfl (fun K hK => ?_) (AllReadyH.nil)
            go_simp
            refine hK.out _ _ (trivial) (fun hHeld => ?_)
            clear hK K
            try simp only [Act.put, List.setIfInBounds_toArray, List.set_cons_zero, List.set_cons_succ]
            refine wpAnyH_ready (rs := [6]) (by kernel_rfl) (by simp) ?_
            refine AllReadyH.cons rfl (fun K hK => ?_) (AllReadyH.nil)
            refine step_app_ints rfl _ _ rfl w.heap.size j v (nodesAt l (p + 13) j) rfl H2.out.2.2 (some ⟨w2.heap.size, 0, none⟩) 1 1 [((nAt l (p + 13 + j) 1 : Nat) : Int)] rfl (ints_one w2 _ hX.out) (fun e => by cases e) (by omega) (H2.out.1) ?_
            intro v' w3 r1 r2
            obtain ⟨adv, nv, cv, rfl⟩ := owns_slice' r1
            have HST := hid (HSP.out w2 w3 _ H2.out.2.1 r1 r2)
            obtain ⟨y2, fy, -⟩ := HST.out
            clear r1 r2
            refine hK.out _ _ (trivial) (fun hHeld => ?_)
            clear hK K
            refine wpAnyH_take (i := 7) (oi := { dst := some 21, op := Op.fieldAddr 61 (Operand.tmp 3) 1, type := 0, pos := "bytes.go:62", after := #[{ on := 0, ground := Ground.phase }, { on := 1, ground := Ground.phase }, { on := 2, ground := Ground.phase }, { on := 3, ground := Ground.phase }, { on := 4, ground := Ground.phase }, { on := 5, ground := Ground.phase }, { on := 6, ground := Ground.phase }], guard := none }) (v := ?_) rfl (by kernel_rfl) (by kernel_rfl) (by kernel_rfl) (fun _ _ _ h => h) (Or.inl ⟨by rfl, ?_⟩) hHeld ?_
            rotate_left
            · intro w hSw; (try dsimp only at hSw); go_simp; try with_reducible rfl
            refine wpAnyH_take (i := 8) (oi := { dst := some 22, op := Op.fieldAddr 54 (Operand.tmp 21) 1, type := 0, pos := "bytes.go:62", after := #[{ on := 7, ground := Ground.data }, { on := 0, ground := Ground.phase }, { on := 1, ground := Ground.phase }, { on := 2, ground := Ground.phase }, { on := 3, ground := Ground.phase }, { on := 4, ground := Ground.phase }, { on := 5, ground := Ground.phase }, { on := 6, ground := Ground.phase }], guard := none }) (v := ?_) rfl (by kernel_rfl) (by kernel_rfl) (by kernel_rfl) (fun _ _ _ h => h) (Or.inl ⟨by rfl, ?_⟩) hHeld ?_
            rotate_left
            · intro w hSw; (try dsimp only at hSw); go_simp; try with_reducible rfl
            refine wpAnyH_ready (rs := [9]) (by kernel_rfl) (by simp) ?_
            refine AllReadyH.cons rfl (fun K hK => ?_) (AllReadyH.nil)
            go_simp
            refine hK.out _ _ (trivial) (fun hHeld => ?_)
            clear hK K
            refine wpAnyH_done (by kernel_rfl) ?_ _
            go_wp2_with fail
            exact ⟨⟨j + 1, by omega, by omega, by go_num, _, hid HST.out.2.2⟩, by simp [intOf]; omega⟩
          · skip
            go_simp
            refine hK.out _ _ (trivial) (fun hHeld => ?_)
            clear hK K
            try simp only [Act.put, List.setIfInBounds_toArray, List.set_cons_zero, List.set_cons_succ]
            refine wpAnyH_ready (rs := [2]) (by kernel_rfl) (by simp) ?_
            refine AllReadyH.cons rfl (fun K hK => ?_) (AllReadyH.nil)
            have k2 : (w2.alloc (.cells #[.int .i64 ((nAt l (p + 13 + j) 1 : Nat) : Int)] 3)).cell? ⟨b3, 2, none⟩ = some v := (H2.out.2.1.2.1.later ((Below.refl _ _).alloc (Nat.le_refl _) _)).cell 2
            go_simp
            refine hK.out _ _ (trivial) (fun hHeld => ?_)
            clear hK K
            try simp only [Act.put, List.setIfInBounds_toArray, List.set_cons_zero, List.set_cons_succ]
            refine wpAnyH_ready (rs := [6]) (by kernel_rfl) (by simp) ?_
            refine AllReadyH.cons rfl (fun K hK => ?_) (AllReadyH.nil)
            refine step_app_ints rfl _ _ rfl w.heap.size j v (nodesAt l (p + 13) j) rfl H2.out.2.2 (some ⟨w2.heap.size, 0, none⟩) 1 1 [((nAt l (p + 13 + j) 1 : Nat) : Int)] rfl (ints_one w2 _ hX.out) (fun e => by cases e) (by omega) (H2.out.1) ?_
            intro v' w3 r1 r2
            obtain ⟨adv, nv, cv, rfl⟩ := owns_slice' r1
            have HST := hid (HSP.out w2 w3 _ H2.out.2.1 r1 r2)
            obtain ⟨y2, fy, -⟩ := HST.out
            clear r1 r2
            refine hK.out _ _ (trivial) (fun hHeld => ?_)
            clear hK K
            refine wpAnyH_take (i := 7) (oi := { dst := some 21, op := Op.fieldAddr 61 (Operand.tmp 3) 1, type := 0, pos := "bytes.go:62", after := #[{ on := 0, ground := Ground.phase }, { on := 1, ground := Ground.phase }, { on := 2, ground := Ground.phase }, { on := 3, ground := Ground.phase }, { on := 4, ground := Ground.phase }, { on := 5, ground := Ground.phase }, { on := 6, ground := Ground.phase }], guard := none }) (v := ?_) rfl (by kernel_rfl) (by kernel_rfl) (by kernel_rfl) (fun _ _ _ h => h) (Or.inl ⟨by rfl, ?_⟩) hHeld ?_
            rotate_left
            · intro w hSw; (try dsimp only at hSw); go_simp; try with_reducible rfl
            refine wpAnyH_take (i := 8) (oi := { dst := some 22, op := Op.fieldAddr 54 (Operand.tmp 21) 1, type := 0, pos := "bytes.go:62", after := #[{ on := 7, ground := Ground.data }, { on := 0, ground := Ground.phase }, { on := 1, ground := Ground.phase }, { on := 2, ground := Ground.phase }, { on := 3, ground := Ground.phase }, { on := 4, ground := Ground.phase }, { on := 5, ground := Ground.phase }, { on := 6, ground := Ground.phase }], guard := none }) (v := ?_) rfl (by kernel_rfl) (by kernel_rfl) (by kernel_rfl) (fun _ _ _ h => h) (Or.inl ⟨by rfl, ?_⟩) hHeld ?_
            rotate_left
            · intro w hSw; (try dsimp only at hSw); go_simp; try with_reducible rfl
            refine wpAnyH_ready (rs := [9]) (by kernel_rfl) (by simp) ?_
            refine AllReadyH.cons rfl (fun K hK => ?_) (AllReadyH.nil)
            go_simp
            refine hK.out _ _ (trivial) (fun hHeld => ?_)
            clear hK K
            refine wpAnyH_done (by kernel_rfl) ?_ _
            go_wp2_with fail
            exact ⟨⟨j + 1, by omega, by omega, by go_num, _, hid HST.out.2.2⟩, by simp [intOf]; omega⟩
      · have HNU : Hid (∀ X, Below wr.heap.size wr X → Calls Try.prog 59 #[.pointer (some ⟨R, 0, none⟩), .int .i64 1] X fun e w' => e = .panicked (refusal 22) ∧ Chg [R] w w') := hid (fun X hX => (num_no (s := 1) (Blk.later HW.out.rd hX) (HBT.out X (Chg.of hX)).1 (by omega) (by omega) a4 (by omega)).mono (fun e w' h => ⟨h.1, (HBT.out X (Chg.of hX)).2.trans (Chg.of h.2) (fun k hk => Or.inl hk)⟩))
        have HNE : Hid (¬ partEnd l p ≤ len) := hid (by rw [HPE.out.1]; omega)
        have HFI : Hid (∀ X, Chg [R] w X → Chg [R] w X) := hid (fun X hX => hX)
        go_wp2_with fail
        refine wp_region_held_drew (S := fun W => True) (by kernel_rfl) (trivial) (fun hHeld => ?_)
        refine wpAnyH_take (i := 0) (oi := { dst := some 14, op := Op.fieldAddr 61 (Operand.tmp 3) 1, type := 0, pos := "bytes.go:62", after := #[], guard := none }) (v := ?_) rfl (by kernel_rfl) (by kernel_rfl) (by kernel_rfl) (fun _ _ _ h => h) (Or.inl ⟨by rfl, ?_⟩) hHeld ?_
        rotate_left
        · intro w hSw; (try dsimp only at hSw); go_simp; try with_reducible rfl
        try simp only [Act.put, List.setIfInBounds_toArray, List.set_cons_zero, List.set_cons_succ]
        refine wpAnyH_take (i := 1) (oi := { dst := some 15, op := Op.fieldAddr 54 (Operand.tmp 14) 1, type := 0, pos := "bytes.go:62", after := #[{ on := 0, ground := Ground.data }], guard := none }) (v := ?_) rfl (by kernel_rfl) (by kernel_rfl) (by kernel_rfl) (fun _ _ _ h => h) (Or.inl ⟨by rfl, ?_⟩) hHeld ?_
        rotate_left
        · intro w hSw; (try dsimp only at hSw); go_simp; try with_reducible rfl
        try simp only [Act.put, List.setIfInBounds_toArray, List.set_cons_zero, List.set_cons_succ]
        refine wpAnyH_take (i := 3) (oi := { dst := some 17, op := Op.move (Operand.tmp 0), type := 96, pos := "bytes.go:62", after := #[], guard := none }) (v := ?_) rfl (by kernel_rfl) (by kernel_rfl) (by kernel_rfl) (fun _ _ _ h => h) (Or.inl ⟨by rfl, ?_⟩) hHeld ?_
        rotate_left
        · intro w hSw; (try dsimp only at hSw); go_simp; try with_reducible rfl
        try simp only [Act.put, List.setIfInBounds_toArray, List.set_cons_zero, List.set_cons_succ]
        refine wpAnyH_ready (rs := [2, 4]) (by kernel_rfl) (by simp) ?_
        refine AllReadyH.cons rfl (fun K hK => ?_) (AllReadyH.cons rfl (fun K hK => ?_) (AllReadyH.nil))
        · skip
          have k2 : wr.cell? ⟨b3, 2, none⟩ = some v := HV.out
          go_simp
          refine hK.out _ _ (trivial) (fun hHeld => ?_)
          clear hK K
          try simp only [Act.put, List.setIfInBounds_toArray, List.set_cons_zero, List.set_cons_succ]
          refine wpAnyH_ready (rs := [4]) (by kernel_rfl) (by simp) ?_
          refine AllReadyH.cons rfl (fun K hK => ?_) (AllReadyH.nil)
          go_simp
          go_wp2_with (go_at_call 59; refine (HNU.out _ ((Below.refl _ wr).drew)).mono ?_; rintro x w2 ⟨rfl, hb⟩)
          exact ⟨rfl, Or.inr ⟨HNE.out, rfl⟩, HFI.out _ hb⟩
        · skip
          go_simp
          go_wp2_with (go_at_call 59; refine (HNU.out _ ((Below.refl _ wr).drew)).mono ?_; rintro x w2 ⟨rfl, hb⟩)
          exact ⟨rfl, Or.inr ⟨HNE.out, rfl⟩, HFI.out _ hb⟩
    · obtain rfl : j = K := by omega
      have hlti : decide ((j : Int) < (j : Int)) = false := by simp
      have hoi : OwnI wr w.heap.size v (nodesAt l (p + 13) j) := by have := HW.out.own; unfold OwnI; rw [nodesAt_length]; exact this
      obtain ⟨s, rfl, -, hi, hn, hnew⟩ := hoi.form (fun x hx => by
        unfold nodesAt at hx
        obtain ⟨i, -, rfl⟩ := List.mem_map.1 hx
        have := HRG.out (p + 13 + i) 1
        omega)
      have HNI : Hid (NewI wr w.heap.size (nodesAt l (p + 13) j) s) := hid ⟨hi, hn, fun _ => hnew⟩
      clear hoi hi hn hnew
      have q0 : wr.cell? ⟨b3, 0, none⟩ = some (.int .i64 ((nAt l p 6 : Nat) : Int)) := HW.out.box.cell 0
      have q1 : wr.cell? ⟨b3, 1, none⟩ = some (.int .i64 ((nAt l (p + 6) 6 : Nat) : Int)) := HW.out.box.cell 1
      have q2 : wr.cell? ⟨b3, 2, none⟩ = some (.slice s.ad s.m s.c) := HW.out.box.cell 2
      have z0 : wr.cell? ⟨w.heap.size, 0, none⟩ = some (.int .i64 0) := HW.out.res.cell 0
      have z1 : wr.cell? ⟨w.heap.size, 1, none⟩ = some (.int .i64 0) := HW.out.res.cell 1
      have z2 : wr.cell? ⟨w.heap.size, 2, none⟩ = some (.slice none 0 0) := HW.out.res.cell 2
      have f0 := HW.out.res.free 0
      have f1 := HW.out.res.free 1
      have f2 := HW.out.res.free 2
      go_wp2_with fail
      have m0 := ((HW.out.res.set 0 (.int .i64 ((nAt l p 6 : Nat) : Int))).set 1 (.int .i64 ((nAt l (p + 6) 6 : Nat) : Int))).set 2 (.slice s.ad s.m s.c)
      have s0 : (((wr.setCell ⟨w.heap.size, 0, none⟩ (.int .i64 ((nAt l p 6 : Nat) : Int))).setCell ⟨w.heap.size, 1, none⟩ (.int .i64 ((nAt l (p + 6) 6 : Nat) : Int))).setCell ⟨w.heap.size, 2, none⟩ (.slice s.ad s.m s.c)).cell? ⟨w.heap.size, 0, none⟩ = some (.int .i64 ((nAt l p 6 : Nat) : Int)) := m0.cell 0
      have s1 : (((wr.setCell ⟨w.heap.size, 0, none⟩ (.int .i64 ((nAt l p 6 : Nat) : Int))).setCell ⟨w.heap.size, 1, none⟩ (.int .i64 ((nAt l (p + 6) 6 : Nat) : Int))).setCell ⟨w.heap.size, 2, none⟩ (.slice s.ad s.m s.c)).cell? ⟨w.heap.size, 1, none⟩ = some (.int .i64 ((nAt l (p + 6) 6 : Nat) : Int)) := m0.cell 1
      have s2 : (((wr.setCell ⟨w.heap.size, 0, none⟩ (.int .i64 ((nAt l p 6 : Nat) : Int))).setCell ⟨w.heap.size, 1, none⟩ (.int .i64 ((nAt l (p + 6) 6 : Nat) : Int))).setCell ⟨w.heap.size, 2, none⟩ (.slice s.ad s.m s.c)).cell? ⟨w.heap.size, 2, none⟩ = some (.slice s.ad s.m s.c) := m0.cell 2
      have hcg : Chg [w.heap.size] wr (((wr.setCell ⟨w.heap.size, 0, none⟩ (.int .i64 ((nAt l p 6 : Nat) : Int))).setCell ⟨w.heap.size, 1, none⟩ (.int .i64 ((nAt l (p + 6) 6 : Nat) : Int))).setCell ⟨w.heap.size, 2, none⟩ (.slice s.ad s.m s.c)) := (((Chg.refl _ wr).set (Or.inl (by simp)) _ _).set (Or.inl (by simp)) _ _).set (Or.inl (by simp)) _ _
      refine bodyPost_ret (v := .agg #[.int .i64 ((nAt l p 6 : Nat) : Int), .int .i64 ((nAt l (p + 6) 6 : Nat) : Int), .slice s.ad s.m s.c]) (by simp [results, Try.results60, go_sem, s0, s1, s2]) rfl ⟨Or.inl ⟨s, rfl, hid ⟨by rw [HPE.out.1]; exact hjl, ?_, ?_⟩⟩, ?_⟩
      · rw [HPE.out.2]
        exact HNI.out.chg hcg (fun g hg cur e => by
          simp at hg
          subst hg
          rw [HW.out.res] at e
          simp at e)
      · rw [HPE.out.1]
        exact Blk.chg HW.out.rd hcg (by simp; omega)
      · exact HW.out.chg.trans hcg (fun k hk => by simp at hk; subst hk; exact Or.inr (Nat.le_refl _))
end Go.Proofs.Ythadagpfmacemaa

/- put of package chain. -/
namespace Go.Proofs.Ythadagpfmacemaa
open Go.RowKit
variable {w w' : World} {ad : Option Addr} {m c base s : Nat} {ns : List Int} {v : Value} {L : List Nat}

/-- Numbers of s bytes each. -/
def putsN (s : Nat) (ns : List Int) : List Nat := ns.flatMap (fun x => spellN x.toNat s)
theorem putsN_snoc (s : Nat) (ns : List Int) (x : Int) : putsN s (ns ++ [x]) = putsN s ns ++ spellN x.toNat s := by unfold putsN; simp
theorem putsN_length (s : Nat) (ns : List Int) : (putsN s ns).length = ns.length * s := by
  induction ns with
  | nil => simp [putsN]
  | cons x ns ih => unfold putsN at *; rw [List.flatMap_cons, List.length_append, ih, spellN_length, List.length_cons, Nat.add_mul]; omega
theorem putsN_lt (s : Nat) (ns : List Int) : ∀ x ∈ putsN s ns, x < 256 := by
  intro x hx
  unfold putsN at hx
  obtain ⟨y, -, hy⟩ := List.mem_flatMap.1 hx
  exact spellN_lt _ _ x hy
theorem take_succI (l : List Int) (j : Nat) (h : j < l.length) : l.take (j + 1) = l.take j ++ [l.getD j 0] := by
  rw [List.take_add_one, List.getD_eq_getElem?_getD, List.getElem?_eq_getElem h]; rfl
/-- Bytes in memory of the call's own. -/
def OwnB (w : World) (base : Nat) (v : Value) (L : List Nat) : Prop := w.ownsRow base 5 1 v L.length (L.map bv)
/-- Nothing but bytes from base on was changed. -/
structure KeepU (base : Nat) (w w' : World) : Prop where
  below : Below base w w'
  typed : ∀ (g : Nat) (cs : Array Value) (T : TypeId), w.heap[g]? = some (.cells cs T) → T ≠ 5 → w'.heap[g]? = some (.cells cs T)
theorem KeepU.refl (base : Nat) (w : World) : KeepU base w w := ⟨Below.refl _ _, fun _ _ _ h _ => h⟩
theorem KeepU.trans {w'' : World} (h : KeepU base w w') (h' : KeepU base w' w'') : KeepU base w w'' := ⟨h.below.trans h'.below, fun g cs T hg hT => h'.typed g cs T (h.typed g cs T hg hT) hT⟩
theorem KeepU.of (h : Below w.heap.size w w') (hb : base ≤ w.heap.size) : KeepU base w w' := ⟨h.mono hb, fun g cs T hg _ => by
  have hlt : g < w.heap.size := by
    rcases Nat.lt_or_ge g w.heap.size with hlt | hge
    · exact hlt
    · rw [Array.getElem?_eq_none hge] at hg; cases hg
  rw [h.block g hlt]; exact hg⟩
theorem KeepU.grown {n : Nat} {xs : List Value} (ho : w.ownsRow base 5 1 v n xs) (hg : w.grownBy w' v.ownBlock) (hb : base ≤ w.heap.size) : KeepU base w w' := by
  refine ⟨grown_below hg (fun g e => owns_base ho g e) hb, fun g cs T h hT => ?_⟩
  have hlt : g < w.heap.size := by
    rcases Nat.lt_or_ge g w.heap.size with hlt | hge
    · exact hlt
    · rw [Array.getElem?_eq_none hge] at h; cases h
  rw [hg.block g hlt (fun e => typed_ne ho (show Blk w g cs T from h) hT (by rw [← e]; simp))]
  exact h
theorem Blk.keepU {g : Nat} {cs : Array Value} {T : TypeId} (h : Blk w g cs T) (hk : KeepU base w w') (hT : T ≠ 5) : Blk w' g cs T := hk.typed g cs T h hT
/-- put in its midst. -/
structure PutW (w : World) (base s : Nat) (L : List Nat) (ns : List Int) (j : Nat) (v : Value) (W : World) : Prop where
  own : OwnB W base v (L ++ putsN s (ns.take j))
  keep : KeepU base w W
set_option maxRecDepth 100000 in
set_option maxHeartbeats 2000000 in
theorem cput_any (h : OwnB w base v L) (hb : base ≤ w.heap.size) (hx : ∀ W, KeepU base w W → Ints W ns ad m c) (h1 : 1 ≤ s) (h6 : s ≤ 6) (hr : ∀ x ∈ ns, 0 ≤ x ∧ x < 2 ^ (8 * s)) (hL : L.length + m * s ≤ 1000000) :
    Calls Try.prog 56 #[v, .int .i64 (s : Int), .slice ad m c] w fun e w' => ∃ v', e = .returned v' ∧ Hid (OwnB w' base v' (L ++ putsN s ns) ∧ KeepU base w w') := by
  have hl := (hx w (KeepU.refl _ _)).len
  have hm : m ≤ 9223372036854775807 := by have := (hx w (KeepU.refl _ _)).cap; have := (hx w (KeepU.refl _ _)).room; unfold maxLen at this; omega
  have HX := hid hx
  have HW0 : Hid (PutW w base s L ns 0 v w) := hid ⟨by simpa [putsN] using h, KeepU.refl _ _⟩
  have HR := hid hr
  clear h hx hr
  go_enter Try.func56, Try.ntmps56
  go_wp2_with fail
  go_loopw [0, 13] (fun v' i wr => ∃ j : Nat, j ≤ m ∧ i = .int .i64 j ∧ Hid (PutW w base s L ns j v' wr)) (fun _ i _ => m - (intOf i).toNat)
  case atStart => exact ⟨0, by omega, rfl, HW0⟩
  case round =>
    obtain ⟨j, hj, rfl, HW⟩ := hrel
    clear HW0
    by_cases hlt : j < m
    · have hlti : decide ((j : Int) < (m : Int)) = true := by simp; omega
      obtain ⟨adu, nu, cu, rfl⟩ := owns_slice' HW.out.own
      have hxr := HX.out wr HW.out.keep
      obtain ⟨b, off, rfl, -, hc⟩ := hxr.row.resolve_left (by omega)
      have r0 := hc j hlt
      have hjl : j < ns.length := by omega
      have hmem : ns.getD j 0 ∈ ns := by rw [List.getD_eq_getElem?_getD, List.getElem?_eq_getElem hjl]; exact List.getElem_mem hjl
      have hrng := HR.out _ hmem
      have hpn : putN (ns.getD j 0) (s : Int) = (0, spellN (ns.getD j 0).toNat s) := by
        have := putN_ok (ns.getD j 0).toNat s h1 h6 (by have := hrng.2; have h0 := hrng.1; have e : (((ns.getD j 0).toNat : Nat) : Int) = ns.getD j 0 := Int.toNat_of_nonneg h0; rw [← e] at this; exact_mod_cast this)
        rw [Int.toNat_of_nonneg hrng.1] at this
        exact this
      have HPU : Hid (Calls Try.prog 67 #[.int .i64 (ns.getD j 0), .int .i64 (s : Int)] wr fun e w' => ∃ ad' c', e = .returned (.tuple #[.slice ad' s c', .int .i64 0]) ∧ Hid (Part.ok w' ⟨ad', s, c', spellN (ns.getD j 0).toNat s⟩ ∧ Below wr.heap.size wr w')) := hid ((put_any (ns.getD j 0) s wr).mono (fun e w' h => by
        obtain ⟨vv, rfl, ho, hb⟩ := h
        rw [hpn] at ho ⊢
        obtain ⟨ad', c', rfl, hok, -⟩ := ho.slice s (spellN_length _ _)
        exact ⟨ad', c', rfl, hid ⟨hok, hb⟩⟩))
      have HLE : Hid ((L ++ putsN s (ns.take j)).length = L.length + j * s ∧ j * s + s ≤ m * s) := hid (by
        refine ⟨by rw [List.length_append, putsN_length, List.length_take, Nat.min_eq_left (by omega)], ?_⟩
        have : (j + 1) * s ≤ m * s := Nat.mul_le_mul_right s (by omega)
        rw [Nat.add_mul] at this
        omega)
      have HNX : Hid (∀ (w2 w3 : World) (v3 : Value), Below wr.heap.size wr w2 → w3.ownsRow base 5 1 v3 ((L ++ putsN s (ns.take j)).length + s) (((L ++ putsN s (ns.take j)) ++ spellN (ns.getD j 0).toNat s).map bv) → w2.grownBy w3 (Value.slice adu nu cu).ownBlock → PutW w base s L ns (j + 1) v3 w3) := hid (fun w2 w3 v3 hb2 r1 r2 => by
        have hbw : base ≤ wr.heap.size := Nat.le_trans hb HW.out.keep.below.size
        have k2 : KeepU base w w2 := HW.out.keep.trans (KeepU.of hb2 hbw)
        refine ⟨?_, k2.trans (KeepU.grown (own_kept HW.out.own hb2) r2 (Nat.le_trans hbw hb2.size))⟩
        rw [take_succI ns j hjl, putsN_snoc, ← List.append_assoc]
        unfold OwnB
        have e : ((L ++ putsN s (ns.take j)) ++ spellN (ns.getD j 0).toNat s).length = (L ++ putsN s (ns.take j)).length + s := by rw [List.length_append, spellN_length]
        rw [e]
        exact r1)
      clear hc hxr hmem hrng hpn
      generalize ns.getD j 0 = y at *
      go_wp2_with first
        | (go_at_call 67; refine HPU.out.mono ?_; rintro e w2 ⟨ad', c', rfl, hh⟩)
        | (go_at_call 31; refine (insist_ok _ _).mono ?_; rintro e w3 ⟨rfl, hw3⟩; obtain rfl := hw3.symm)
        | (at_builtin; refine app_any rfl _ _ rfl base (.slice adu nu cu) _ (L ++ putsN s (ns.take j)) rfl (own_kept HW.out.own hh.out.2) ad' s c' (spellN y.toNat s) rfl (spellN_length _ _) hh.out.1.2.1 hh.out.1.2.2 (by have := HLE.out.1; have := HLE.out.2; omega) (by have := hh.out.2.size; have := HW.out.keep.below.size; omega) ?_; intro v3 w3 r1 r2; have HN3 := hid (HNX.out w2 w3 v3 hh.out.2 r1 r2); clear r1 r2)
      exact ⟨⟨j + 1, by omega, by go_num, HN3⟩, by simp [intOf]; omega⟩
    · obtain rfl : j = m := by omega
      have hlti : decide ((j : Int) < (j : Int)) = false := by simp
      go_wp2_with fail
      go_ret
      exact ⟨_, rfl, hid ⟨by have := HW.out.own; rwa [List.take_of_length_le (by omega)] at this, HW.out.keep⟩⟩
end Go.Proofs.Ythadagpfmacemaa

/- tell of package chain (by gentell.py). -/
namespace Go.Proofs.Ythadagpfmacemaa
open Go.RowKit
variable {w w' W X : World} {l : List Pt} {A : Nat → Sl} {ad : Option Addr} {m c : Nat} {o t : Int} {B : List Nat} {v : Value}

/-- A part, and a chain, as bytes. -/
def partN (p : Pt) : List Nat := putsN 6 [p.first, p.id] ++ putsN 1 [(p.nodes.length : Int)] ++ putsN 1 p.nodes
def headN (o t : Int) (n : Nat) : List Nat := putsN 1 [o] ++ putsN 6 [t] ++ putsN 1 [(n : Int)]
def tellN (o t : Int) (l : List Pt) : List Nat := headN o t l.length ++ l.flatMap partN
/-- What has room in its bytes. -/
def FitP (p : Pt) : Prop := (0 ≤ p.first ∧ p.first < 281474976710656) ∧ (0 ≤ p.id ∧ p.id < 281474976710656) ∧ p.nodes.length ≤ 9 ∧ ∀ x ∈ p.nodes, 0 ≤ x ∧ x < 256
theorem partN_length (p : Pt) : (partN p).length = 13 + p.nodes.length := by unfold partN; simp [putsN_length]; omega
theorem headN_length (o t : Int) (n : Nat) : (headN o t n).length = 8 := by unfold headN; simp [putsN_length]
theorem parts_length (l : List Pt) (h : ∀ p ∈ l, p.nodes.length ≤ 9) : (l.flatMap partN).length ≤ l.length * 22 := by
  induction l with
  | nil => simp
  | cons p l ih =>
    rw [List.flatMap_cons, List.length_append, partN_length, List.length_cons]
    have h1 := h p (by simp)
    have h2 := ih (fun q hq => h q (by simp [hq]))
    omega
theorem ints_blk1 {g : Nat} {x : Int} (h : Blk w g #[.int .i64 x] 3) (hx : -9223372036854775808 ≤ x ∧ x ≤ 9223372036854775807) : Ints w [x] (some ⟨g, 0, none⟩) 1 1 := by
  refine ⟨rfl, Nat.le_refl _, by unfold maxLen; omega, Or.inr ⟨g, 0, rfl, h.lt, fun i hi => ?_⟩, fun y hy => by simp at hy; subst hy; exact hx⟩
  obtain rfl : i = 0 := by omega
  exact h.cell 0
theorem ints_blk2 {g : Nat} {x y : Int} (h : Blk w g #[.int .i64 x, .int .i64 y] 3) (hx : -9223372036854775808 ≤ x ∧ x ≤ 9223372036854775807) (hy : -9223372036854775808 ≤ y ∧ y ≤ 9223372036854775807) : Ints w [x, y] (some ⟨g, 0, none⟩) 2 2 := by
  refine ⟨rfl, Nat.le_refl _, by unfold maxLen; omega, Or.inr ⟨g, 0, rfl, h.lt, fun i hi => ?_⟩, fun z hz => by simp at hz; rcases hz with rfl | rfl; exact hx; exact hy⟩
  rcases (show i = 0 ∨ i = 1 by omega) with rfl | rfl
  · exact h.cell 0
  · exact h.cell 1
/-- tell in its midst. -/
structure TellW (w : World) (o t : Int) (ad : Option Addr) (m c : Nat) (B : List Nat) (v : Value) (W : World) : Prop where
  own : OwnB W (w.heap.size + 1) v B
  box : Blk W w.heap.size #[.int .i64 o, .int .i64 t, .slice ad m c] 28
  below : Below w.heap.size w W
theorem TellW.later (h : TellW w o t ad m c B v W) (hb : Below W.heap.size W X) : TellW w o t ad m c B v X := ⟨own_kept h.own hb, h.box.later hb, h.below.trans (hb.mono h.below.size)⟩
theorem TellW.size (h : TellW w o t ad m c B v W) : w.heap.size + 1 ≤ W.heap.size := h.box.lt
theorem TellW.put {ns : List Int} {s a k : Nat} {d : Option Addr} (h : TellW w o t ad m c B v X) (hx : ∀ Y, KeepU (w.heap.size + 1) X Y → Ints Y ns d a k) (h1 : 1 ≤ s) (h6 : s ≤ 6) (hr : ∀ x ∈ ns, 0 ≤ x ∧ x < 2 ^ (8 * s)) (hL : B.length + a * s ≤ 1000000) :
    Calls Try.prog 56 #[v, .int .i64 (s : Int), .slice d a k] X fun e w' => ∃ v', e = .returned v' ∧ Hid (TellW w o t ad m c (B ++ putsN s ns) v' w' ∧ KeepU (w.heap.size + 1) X w') :=
  (cput_any h.own h.size hx h1 h6 hr hL).mono (fun e w' hh => by
    obtain ⟨v', rfl, ho⟩ := hh
    exact ⟨v', rfl, hid ⟨⟨ho.out.1, h.box.keepU ho.out.2 (by decide), h.below.trans (ho.out.2.below.mono (by omega))⟩, ho.out.2⟩⟩)
theorem TellW.put1 {s : Nat} {x : Int} (h : TellW w o t ad m c B v W) (h1 : 1 ≤ s) (h6 : s ≤ 6) (hr : 0 ≤ x ∧ x < 2 ^ (8 * s)) (hx : x < 281474976710656) (hL : B.length ≤ 900000) :
    Calls Try.prog 56 #[v, .int .i64 (s : Int), .slice (some ⟨W.heap.size, 0, none⟩) 1 1] (W.alloc (.cells #[.int .i64 x] 3)) fun e w' => ∃ v', e = .returned v' ∧ Hid (TellW w o t ad m c (B ++ putsN s [x]) v' w' ∧ KeepU (w.heap.size + 1) (W.alloc (.cells #[.int .i64 x] 3)) w') :=
  (h.later ((Below.refl _ _).alloc (Nat.le_refl _) _)).put (fun Y hY => ints_blk1 (Blk.keepU (heap_alloc_new W _) hY (by decide)) (by omega)) h1 h6 (fun y hy => by simp at hy; subst hy; exact hr) (by omega)
theorem TellW.put2 {x y : Int} (h : TellW w o t ad m c B v W) (hx : 0 ≤ x ∧ x < 281474976710656) (hy : 0 ≤ y ∧ y < 281474976710656) (hL : B.length ≤ 900000) :
    Calls Try.prog 56 #[v, .int .i64 6, .slice (some ⟨W.heap.size, 0, none⟩) 2 2] (W.alloc (.cells #[.int .i64 x, .int .i64 y] 3)) fun e w' => ∃ v', e = .returned v' ∧ Hid (TellW w o t ad m c (B ++ putsN 6 [x, y]) v' w' ∧ KeepU (w.heap.size + 1) (W.alloc (.cells #[.int .i64 x, .int .i64 y] 3)) w') :=
  (h.later ((Below.refl _ _).alloc (Nat.le_refl _) _)).put (s := 6) (fun Y hY => ints_blk2 (Blk.keepU (heap_alloc_new W _) hY (by decide)) (by omega) (by omega)) (by omega) (by omega) (fun z hz => by simp at hz; rcases hz with rfl | rfl; exact hx; exact hy) (by omega)
theorem take_snocP' (l : List Pt) (j : Nat) (h : j < l.length) : l.take (j + 1) = l.take j ++ [ptAt l j] := take_snocP l j h
set_option maxRecDepth 100000 in
set_option maxHeartbeats 4000000 in
theorem tell_any (h : CArg w l A ad m c) (ho : 0 ≤ o ∧ o < 256) (ht : 0 ≤ t ∧ t < 281474976710656) (hm : m ≤ 64) (hf : ∀ i, i < m → FitP (ptAt l i)) :
    Calls Try.prog 32 #[.agg #[.int .i64 o, .int .i64 t, .slice ad m c]] w fun e w' => ∃ v, e = .returned v ∧ Hid (OwnB w' (w.heap.size + 1) v (tellN o t l) ∧ Below w.heap.size w w') := by
  have hl := h.len
  have H := hid h
  have HF := hid hf
  have HLP : Hid (∀ j, j ≤ m → ((l.take j).flatMap partN).length ≤ 1408) := hid (fun j hj => by
    have h1 := parts_length (l.take j) (fun p hp => by
      obtain ⟨i, hi, rfl⟩ := List.getElem_of_mem hp
      rw [List.length_take] at hi
      rw [List.getElem_take]
      have := (hf i (by omega)).2.2.1
      unfold ptAt at this
      rw [List.getD_eq_getElem?_getD, List.getElem?_eq_getElem (by omega)] at this
      exact this)
    rw [List.length_take] at h1
    have : min j l.length * 22 ≤ 64 * 22 := Nat.mul_le_mul_right 22 (by omega)
    omega)
  have T0 : Hid (TellW w o t ad m c [] (.slice none 0 0) (w.alloc (.cells #[.int .i64 o, .int .i64 t, .slice ad m c] 28))) := hid ⟨World.ownsRow_nil _ _ _ _, heap_alloc_new w _, (Below.refl _ _).alloc (Nat.le_refl _) _⟩
  have HP1 : Hid (Calls Try.prog 56 #[.slice none 0 0, .int .i64 1, .slice (some ⟨w.heap.size + 1, 0, none⟩) 1 1] ((w.alloc (.cells #[.int .i64 o, .int .i64 t, .slice ad m c] 28)).alloc (.cells #[.int .i64 o] 3)) fun e w' => ∃ v', e = .returned v' ∧ Hid (TellW w o t ad m c (putsN 1 [o]) v' w' ∧ KeepU (w.heap.size + 1) ((w.alloc (.cells #[.int .i64 o, .int .i64 t, .slice ad m c] 28)).alloc (.cells #[.int .i64 o] 3)) w')) := hid (by
    have := T0.out.put1 (s := 1) (x := o) (by omega) (by omega) (by omega) (by omega) (by simp)
    rw [World.size_alloc, List.nil_append] at this
    exact this)
  have HC : Hid (∀ W, Below w.heap.size w W → CArg W l A ad m c) := hid (fun W hW => h.later hW)
  clear h hf
  go_enter Try.func32, Try.ntmps32
  go_wp2_with first
    | (go_at_call 56; (with_reducible_and_instances (refine HP1.out.mono ?_)); rintro x w1 ⟨v1, rfl, h1⟩; have T1 := hid h1.out.1; have k0 : w1.cell? ⟨w.heap.size, 1, none⟩ = some (.int .i64 t) := T1.out.box.cell 1; have HP2 := hid (T1.out.put1 (s := 6) (x := t) (by omega) (by omega) (by omega) (by omega) (by simp [putsN_length])); clear h1)
    | (go_at_call 56; (with_reducible_and_instances (refine HP2.out.mono ?_)); rintro x w2 ⟨v2, rfl, h2⟩; have T2 := hid h2.out.1; clear k0; have k0 : w2.cell? ⟨w.heap.size, 2, none⟩ = some (.slice ad m c) := T2.out.box.cell 2; have HP3 := hid (T2.out.put1 (s := 1) (x := (m : Int)) (by omega) (by omega) (by omega) (by omega) (by simp [putsN_length])); clear h2)
    | (go_at_call 56; (with_reducible_and_instances (refine HP3.out.mono ?_)); rintro x w3 ⟨v3, rfl, h3⟩; have T3 := hid h3.out.1; clear k0; have k0 : w3.cell? ⟨w.heap.size, 2, none⟩ = some (.slice ad m c) := T3.out.box.cell 2; clear h3)
  have T3' : Hid (TellW w o t ad m c (headN o t m) v3 w3) := hid T3.out
  clear T0 T1 T2 T3 HP1 HP2 HP3 k0
  go_loopw [3, 24] (fun v' i wr => ∃ j : Nat, j ≤ m ∧ i = .int .i64 j ∧ Hid (TellW w o t ad m c (headN o t m ++ (l.take j).flatMap partN) v' wr)) (fun _ i _ => m - (intOf i).toNat)
  case atStart => exact ⟨0, by omega, rfl, hid (by rw [List.take_zero, List.flatMap_nil, List.append_nil]; exact T3'.out)⟩
  case round =>
    obtain ⟨j, hj, rfl, HW⟩ := hrel
    clear T3'
    by_cases hlt : j < m
    · have hlti : decide ((j : Int) < (m : Int)) = true := by simp; omega
      obtain ⟨adu, nu, cu, rfl⟩ := owns_slice' HW.out.own
      have hcw := HC.out wr HW.out.below
      obtain ⟨b, off, rfl, hs, hc⟩ := hcw.cells (by omega)
      obtain ⟨r0, r1, r2⟩ := hc j hlt
      have hfit := HF.out j hlt
      have hnl := (hcw.ints j hlt).1.len
      have hbl := HLP.out j hj
      have T4 := hid (HW.out.later ((Below.refl _ _).alloc (Nat.le_refl _) (.cells #[.int .i64 (ptAt l j).first, .int .i64 (ptAt l j).id, .slice (A j).ad (A j).m (A j).c] 61)))
      have HQ1 := hid (T4.out.put2 (x := (ptAt l j).first) (y := (ptAt l j).id) hfit.1 hfit.2.1 (by rw [List.length_append, headN_length]; omega))
      rw [World.size_alloc] at HQ1
      have HBP : Hid (Blk (wr.alloc (.cells #[.int .i64 (ptAt l j).first, .int .i64 (ptAt l j).id, .slice (A j).ad (A j).m (A j).c] 61)) wr.heap.size #[.int .i64 (ptAt l j).first, .int .i64 (ptAt l j).id, .slice (A j).ad (A j).m (A j).c] 61) := hid (heap_alloc_new wr _)
      have HIN : Hid (∀ Y, Below w.heap.size w Y → Ints Y (ptAt l j).nodes (A j).ad (A j).m (A j).c) := hid (fun Y hY => ((HC.out Y hY).ints j hlt).1)
      have HND : Hid (∀ x ∈ (ptAt l j).nodes, 0 ≤ x ∧ x < 2 ^ (8 * 1)) := hid (fun x hx => hfit.2.2.2 x hx)
      have h9 := hfit.2.2.1
      clear hcw hc hs hfit T4
      go_wp2_with first
        | (go_at_call 56; (with_reducible_and_instances (refine HQ1.out.mono ?_)); rintro x w4 ⟨v4, rfl, h4⟩; have T5 := hid h4.out.1; have HB4 := hid ((HBP.out.later ((Below.refl _ _).alloc (Nat.le_refl _) _)).keepU h4.out.2 (by decide)); have q2 : w4.cell? ⟨wr.heap.size, 2, none⟩ = some (.slice (A j).ad (A j).m (A j).c) := HB4.out.cell 2; have HQ2 := hid (T5.out.put1 (s := 1) (x := ((A j).m : Int)) (by omega) (by omega) (by omega) (by omega) (by rw [List.length_append, List.length_append, headN_length, putsN_length]; simp only [List.length_cons, List.length_nil]; omega)); clear h4)
        | (go_at_call 56; (with_reducible_and_instances (refine HQ2.out.mono ?_)); rintro x w5 ⟨v5, rfl, h5⟩; have T6 := hid h5.out.1; have HB5 := hid ((HB4.out.later ((Below.refl _ _).alloc (Nat.le_refl _) _)).keepU h5.out.2 (by decide)); clear q2; have q2 : w5.cell? ⟨wr.heap.size, 2, none⟩ = some (.slice (A j).ad (A j).m (A j).c) := HB5.out.cell 2; have HQ3 := hid (T6.out.put (s := 1) (ns := (ptAt l j).nodes) (fun Y hY => HIN.out Y (T6.out.below.trans (hY.below.mono (by omega)))) (by omega) (by omega) HND.out (by rw [List.length_append, List.length_append, List.length_append, headN_length, putsN_length, putsN_length]; simp only [List.length_cons, List.length_nil]; omega)); clear h5)
        | (go_at_call 56; (with_reducible_and_instances (refine HQ3.out.mono ?_)); rintro x w6 ⟨v6, rfl, h6⟩; have T7 := hid h6.out.1; clear h6)
      refine ⟨⟨j + 1, by omega, by go_num, hid ?_⟩, by simp [intOf]; omega⟩
      have e : headN o t m ++ (l.take (j + 1)).flatMap partN = (((headN o t m ++ (l.take j).flatMap partN) ++ putsN 6 [(ptAt l j).first, (ptAt l j).id]) ++ putsN 1 [((A j).m : Int)]) ++ putsN 1 (ptAt l j).nodes := by
        rw [take_snocP' l j (by omega), List.flatMap_append, List.flatMap_cons, List.flatMap_nil, List.append_nil]
        unfold partN
        rw [hnl]
        simp only [List.append_assoc]
      rw [e]
      exact T7.out
    · obtain rfl : j = m := by omega
      have hlti : decide ((j : Int) < (j : Int)) = false := by simp
      go_wp2_with fail
      go_ret
      refine ⟨_, rfl, hid ⟨?_, HW.out.below⟩⟩
      have := HW.out.own
      rw [List.take_of_length_le (by omega)] at this
      unfold tellN
      rw [hl]
      exact this
end Go.Proofs.Ythadagpfmacemaa
