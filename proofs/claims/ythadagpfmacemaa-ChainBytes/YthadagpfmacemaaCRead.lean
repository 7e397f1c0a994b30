/- chain of package chain's reader (by gencread.py). -/
import Derived.Test.YthadagpfmacemaaCTell
import Derived.Test.YthadagpfmacemaaCExtG
namespace Go.Proofs.Ythadagpfmacemaa
open Go.RowKit
variable {w w' : World} {ad : Option Addr} {len cap : Nat} {l : List Nat} {R : Nat}

/-- chain in its midst: j parts are read. -/
structure ReadW (w : World) (R : Nat) (ad : Option Addr) (len cap : Nat) (l : List Nat) (b3 j : Nat) (v : Value) (A : Nat → Sl) (W : World) : Prop where
  rd : RdC W R (posAt l j) ad len cap
  chg : Chg [R] w W
  res : Blk W w.heap.size #[.int .i64 0, .int .i64 0, .slice none 0 0] 28
  box : Blk W b3 #[.int .i64 ((nAt l 0 1 : Nat) : Int), .int .i64 ((nAt l 1 6 : Nat) : Int), v] 28
  own : OwnP 61 W w.heap.size v (partsAt l j) A
  new : ∀ i, i < j → NewI W w.heap.size (partAt l (posAt l i)).nodes (A i)
theorem rd_ne_int {W : World} {p : Nat} (h : RdC W R p ad len cap) : ∀ g ∈ [R], ∀ cur, W.heap[g]? ≠ some (.cells cur 3) := fun g hg cur e => by
  simp at hg
  subst hg
  rw [h] at e
  simp at e
theorem ReadW.num {b3 j : Nat} {v : Value} {A : Nat → Sl} {W w2 : World} (h : ReadW w R ad len cap l b3 j v A W) (hne : R ≠ w.heap.size) (h3 : R ≠ b3) (hw : Chg [R] W w2) :
    Blk w2 b3 #[.int .i64 ((nAt l 0 1 : Nat) : Int), .int .i64 ((nAt l 1 6 : Nat) : Int), v] 28 ∧ Blk w2 w.heap.size #[.int .i64 0, .int .i64 0, .slice none 0 0] 28 ∧ OwnP 61 w2 w.heap.size v (partsAt l j) A ∧ Chg [R] w w2 :=
  ⟨h.box.chg hw (by simpa using fun e => h3 e.symm), h.res.chg hw (by simpa using fun e => hne e.symm), h.own.chg hw (fun g hg hm => by simp at hm; subst hm; exact typed_ne h.own h.rd (by decide) hg), h.chg.trans hw (fun k hk => Or.inl hk)⟩
theorem ReadW.round {b3 j : Nat} {v v' : Value} {A : Nat → Sl} {W w2 w3 : World} {s : Sl} (h : ReadW w R ad len cap l b3 j v A W) (hne : R ≠ w.heap.size) (h3 : R ≠ b3) (h4 : b3 ≠ w.heap.size) (hb3 : w.heap.size ≤ b3) (hw : Chg [R] W w2) (hr : RdC w2 R (posAt l (j + 1)) ad len cap) (hs : NewI w2 W.heap.size (partAt l (posAt l j)).nodes s) (o : Obj)
    (r1 : OwnP 61 w3 w.heap.size v' (partsAt l j ++ [(partAt l (posAt l j))]) (fun i => if i < (partsAt l j).length then A i else s)) (r2 : (w2.alloc o).grownBy w3 v.ownBlock) :
    w3.cell? ⟨b3, 2, none⟩ = some v ∧ w3.frozen? ⟨b3, 2, none⟩ = false ∧ ReadW w R ad len cap l b3 (j + 1) v' (fun i => if i < (partsAt l j).length then A i else s) (w3.setCell ⟨b3, 2, none⟩ v') := by
  obtain ⟨k3, kz, ko, kc⟩ := h.num hne h3 hw
  have ca : Chg [] w2 (w2.alloc o) := Chg.of ((Below.refl _ _).alloc (Nat.le_refl _) _)
  have cg := grown_chg r2
  have n3 := typed_ne ko k3 (by decide)
  have nz := typed_ne ko kz (by decide)
  have nr := typed_ne ko hr (by decide)
  have q3 := (k3.chg ca (by simp)).chg cg n3
  have qz := (kz.chg ca (by simp)).chg cg nz
  have qr : RdC w3 R (posAt l (j + 1)) ad len cap := (Blk.chg (Blk.chg hr ca (by simp)) cg nr)
  have cs : Chg [b3] w3 (w3.setCell ⟨b3, 2, none⟩ v') := (Chg.refl _ _).set (Or.inl (by simp)) _ _
  have t0 := owns_typed (own_kept ko ((Below.refl _ _).alloc (Nat.le_refl _) o))
  have keep : ∀ {lst : List Int} {sl : Sl} {b : Nat}, NewI w2 b lst sl → NewI (w3.setCell ⟨b3, 2, none⟩ v') b lst sl := fun {lst sl b} hn => by
    have e4 := hn.chg ca (fun g hg => by cases hg)
    have e6 := e4.chg cg (fun g hg cur => by obtain ⟨c0, hc⟩ := t0 g hg; exact part_ne_int hc cur)
    refine e6.chg cs (fun g hg cur e => ?_)
    simp at hg
    subst hg
    rw [q3] at e
    simp at e
  have hlen := partsAt_length l j
  refine ⟨q3.cell 2, q3.free 2, ?_, ?_, qz.other (fun e => h4 e.symm) _ _, by have := q3.set 2 v'; exact this, ?_, fun i hi => ?_⟩
  · exact Blk.other qr h3 _ _
  · refine ((kc.trans ca (fun k hk => by cases hk)).trans cg (fun k hk => ?_)).trans cs (fun k hk => by simp at hk; subst hk; exact Or.inr hb3)
    exact Or.inr (owns_base ko k (by simpa using hk))
  · rw [partsAt_succ]
    exact r1.chg cs (fun g hg hm => by simp at hm; subst hm; exact typed_ne r1 q3 (by decide) hg)
  · by_cases e : i < j
    · simp only [hlen, e, if_true]
      exact keep ((h.new i e).chg hw (rd_ne_int h.rd))
    · obtain rfl : i = j := by omega
      simp only [hlen, Nat.lt_irrefl, if_false]
      exact (keep hs).down h.chg.size
set_option maxRecDepth 100000 in
set_option maxHeartbeats 4000000 in
theorem chain_any (hR : RdC w R 0 ad len cap) (hB : Bts w ad len cap l R) :
    Calls Try.prog 36 #[.pointer (some ⟨R, 0, none⟩)] w fun e w' => ((∃ ad' c', e = .returned (.agg #[.int .i64 ((nAt l 0 1 : Nat) : Int), .int .i64 ((nAt l 1 6 : Nat) : Int), .slice ad' (cntAt l) c']) ∧ Hid (posAt l (cntAt l) ≤ len ∧ CAns w' w.heap.size (partsAt l (cntAt l)) ad' (cntAt l) c' ∧ RdC w' R (posAt l (cntAt l)) ad len cap)) ∨ (¬ posAt l (cntAt l) ≤ len ∧ e = .panicked (refusal 22))) ∧ Chg [R] w w' := by
  have hRl : R < w.heap.size := Blk.lt hR
  have hlt := hB.lt
  have n0 : Below w.heap.size w (w.alloc (.cells #[.int .i64 0, .int .i64 0, .slice none 0 0] 28)) := (Below.refl _ _).alloc (Nat.le_refl _) _
  have hcn : cntAt l < 256 := nAt_one l hlt _
  have hmx := hB.max
  have HN0 : Hid (∀ (X : World), Chg [R] (w.alloc (.cells #[.int .i64 0, .int .i64 0, .slice none 0 0] 28)) X → Bts X ad len cap l R ∧ Blk X w.heap.size #[.int .i64 0, .int .i64 0, .slice none 0 0] 28 ∧ Chg [R] w X) := hid (fun X hX => ⟨(hB.later n0).chg hX (fun b off e hl hm => by simp at hm; exact hB.ne b off e hl hm), (show Blk (w.alloc (.cells #[.int .i64 0, .int .i64 0, .slice none 0 0] 28)) w.heap.size #[.int .i64 0, .int .i64 0, .slice none 0 0] 28 from heap_alloc_new w _).chg hX (by simp; omega), (Chg.of n0).trans hX (fun k hk => Or.inl hk)⟩)
  have HBW : Hid (∀ X, Chg [R] w X → Bts X ad len cap l R) := hid (fun X hX => hB.chg hX (fun b off e hl hm => by simp at hm; exact hB.ne b off e hl hm))
  have HR0 : Hid (RdC (w.alloc (.cells #[.int .i64 0, .int .i64 0, .slice none 0 0] 28)) R 0 ad len cap) := hid (Blk.later hR n0)
  have HRG : Hid (∀ q s, nAt l q s < 281474976710656 ∨ 6 < s) := hid (fun q s => by by_cases h6 : s ≤ 6; exact Or.inl (nAt_lt l hlt q s h6); exact Or.inr (by omega))
  have HG8 : Hid (∀ k, 8 ≤ posAt l k) := hid (posAt_ge l)
  obtain ⟨K, hK⟩ : ∃ K, cntAt l = K := ⟨_, rfl⟩
  rw [hK] at hcn ⊢
  have HK : Hid (nAt l 7 1 = K) := hid hK
  have HOK : Hid (∀ (X : World) (q s : Nat), Chg [R] (w.alloc (.cells #[.int .i64 0, .int .i64 0, .slice none 0 0] 28)) X → RdC X R q ad len cap → 1 ≤ s → s ≤ 6 → q + s ≤ len → Calls Try.prog 59 #[.pointer (some ⟨R, 0, none⟩), .int .i64 (s : Int)] X fun e w' => e = .returned (.int .i64 ((nAt l q s : Nat) : Int)) ∧ Hid (RdC w' R (q + s) ad len cap ∧ Chg [R] X w')) := hid (fun X q s hX hr h1 h6 hq => num_ok hr (HN0.out X hX).1 h1 h6 hq)
  have HNO : Hid (∀ (X : World) (q s : Nat), Chg [R] (w.alloc (.cells #[.int .i64 0, .int .i64 0, .slice none 0 0] 28)) X → RdC X R q ad len cap → 1 ≤ s → s ≤ 6 → ¬ q + s ≤ len → q ≤ len → Calls Try.prog 59 #[.pointer (some ⟨R, 0, none⟩), .int .i64 (s : Int)] X fun e w' => e = .panicked (refusal 22) ∧ Hid (Chg [R] X w')) := hid (fun X q s hX hr h1 h6 hq hl => (num_no hr (HN0.out X hX).1 h1 h6 hq (by omega)).mono (fun e w' h => ⟨h.1, hid (Chg.of h.2)⟩))
  have C0 : Hid (Chg [R] (w.alloc (.cells #[.int .i64 0, .int .i64 0, .slice none 0 0] 28)) (w.alloc (.cells #[.int .i64 0, .int .i64 0, .slice none 0 0] 28))) := hid (Chg.refl _ _)
  clear hR hB n0 hlt hK
  by_cases a1 : 0 + 1 ≤ len
  case neg =>
    have HA : Hid (Calls Try.prog 59 #[.pointer (some ⟨R, 0, none⟩), .int .i64 1] (w.alloc (.cells #[.int .i64 0, .int .i64 0, .slice none 0 0] 28)) fun e w' => e = .panicked (refusal 22) ∧ Hid (Chg [R] (w.alloc (.cells #[.int .i64 0, .int .i64 0, .slice none 0 0] 28)) w')) := hid (HNO.out _ 0 1 C0.out HR0.out (by omega) (by omega) a1 (by omega))
    have HNE : Hid (¬ posAt l K ≤ len) := hid (by have := HG8.out K; omega)
    go_enter Try.func36, Try.ntmps36
    go_wp2_with (go_at_call 59; refine HA.out.mono ?_; rintro x w1 ⟨rfl, h1⟩)
    exact ⟨rfl, Or.inr ⟨HNE.out, rfl⟩, (HN0.out _ h1.out).2.2⟩
  have HA : Hid (Calls Try.prog 59 #[.pointer (some ⟨R, 0, none⟩), .int .i64 1] (w.alloc (.cells #[.int .i64 0, .int .i64 0, .slice none 0 0] 28)) fun e w' => e = .returned (.int .i64 ((nAt l 0 1 : Nat) : Int)) ∧ Hid (RdC w' R 1 ad len cap ∧ Chg [R] (w.alloc (.cells #[.int .i64 0, .int .i64 0, .slice none 0 0] 28)) w')) := hid (HOK.out _ 0 1 C0.out HR0.out (by omega) (by omega) a1)
  by_cases a2 : 1 + 6 ≤ len
  case neg =>
    have HNE : Hid (¬ posAt l K ≤ len) := hid (by have := HG8.out K; omega)
    have HA2 : Hid (∀ X, RdC X R 1 ad len cap ∧ Chg [R] (w.alloc (.cells #[.int .i64 0, .int .i64 0, .slice none 0 0] 28)) X → Calls Try.prog 59 #[.pointer (some ⟨R, 0, none⟩), .int .i64 6] X fun e w' => e = .panicked (refusal 22) ∧ Hid (Chg [R] X w')) := hid (fun X hX => HNO.out X 1 6 hX.2 hX.1 (by omega) (by omega) a2 (by omega))
    go_enter Try.func36, Try.ntmps36
    go_wp2_with first
      | (go_at_call 59; (with_reducible_and_instances (refine HA.out.mono ?_)); rintro x w1 ⟨rfl, h1⟩)
      | (go_at_call 59; (with_reducible_and_instances (refine (HA2.out _ h1.out).mono ?_)); rintro x w2 ⟨rfl, h2⟩)
    exact ⟨rfl, Or.inr ⟨HNE.out, rfl⟩, (HN0.out _ (h1.out.2.trans h2.out (fun k hk => Or.inl hk))).2.2⟩
  have HA2 : Hid (∀ X, RdC X R 1 ad len cap ∧ Chg [R] (w.alloc (.cells #[.int .i64 0, .int .i64 0, .slice none 0 0] 28)) X → Calls Try.prog 59 #[.pointer (some ⟨R, 0, none⟩), .int .i64 6] X fun e w' => e = .returned (.int .i64 ((nAt l 1 6 : Nat) : Int)) ∧ Hid (RdC w' R 7 ad len cap ∧ Chg [R] (w.alloc (.cells #[.int .i64 0, .int .i64 0, .slice none 0 0] 28)) w')) := hid (fun X hX => (HOK.out X 1 6 hX.2 hX.1 (by omega) (by omega) a2).mono (fun e w' h => ⟨h.1, hid ⟨h.2.out.1, hX.2.trans h.2.out.2 (fun k hk => Or.inl hk)⟩⟩))
  have HAL : Hid (∀ (X : World), RdC X R 7 ad len cap ∧ Chg [R] (w.alloc (.cells #[.int .i64 0, .int .i64 0, .slice none 0 0] 28)) X → RdC (X.alloc (.cells #[.int .i64 ((nAt l 0 1 : Nat) : Int), .int .i64 ((nAt l 1 6 : Nat) : Int), .slice none 0 0] 28)) R 7 ad len cap ∧ Chg [R] (w.alloc (.cells #[.int .i64 0, .int .i64 0, .slice none 0 0] 28)) (X.alloc (.cells #[.int .i64 ((nAt l 0 1 : Nat) : Int), .int .i64 ((nAt l 1 6 : Nat) : Int), .slice none 0 0] 28)) ∧ Blk (X.alloc (.cells #[.int .i64 ((nAt l 0 1 : Nat) : Int), .int .i64 ((nAt l 1 6 : Nat) : Int), .slice none 0 0] 28)) X.heap.size #[.int .i64 ((nAt l 0 1 : Nat) : Int), .int .i64 ((nAt l 1 6 : Nat) : Int), .slice none 0 0] 28 ∧ w.heap.size + 1 ≤ X.heap.size) := hid (fun X hX => by
    have nb := (Below.refl X.heap.size X).alloc (Nat.le_refl _) (.cells #[.int .i64 ((nAt l 0 1 : Nat) : Int), .int .i64 ((nAt l 1 6 : Nat) : Int), .slice none 0 0] 28)
    exact ⟨Blk.later hX.1 nb, hX.2.trans (Chg.of nb) (fun k hk => Or.inl hk), heap_alloc_new X _, by have := hX.2.size; simpa using this⟩)
  by_cases a3 : 7 + 1 ≤ len
  case neg =>
    have HNE : Hid (¬ posAt l K ≤ len) := hid (by have := HG8.out K; omega)
    go_enter Try.func36, Try.ntmps36
    go_wp2_with first
      | (go_at_call 59; (with_reducible_and_instances (refine HA.out.mono ?_)); rintro x w1 ⟨rfl, h1⟩)
      | (go_at_call 59; (with_reducible_and_instances (refine (HA2.out _ h1.out).mono ?_)); rintro x w2 ⟨rfl, h2⟩; have h2a := HAL.out w2 h2.out; have HA3 := HNO.out _ 7 1 h2a.2.1 h2a.1 (by omega) (by omega) a3 (by omega))
      | (go_at_call 59; refine HA3.mono ?_; rintro x w3 ⟨rfl, h3⟩)
    exact ⟨rfl, Or.inr ⟨HNE.out, rfl⟩, (HN0.out _ (h2a.2.1.trans h3.out (fun k hk => Or.inl hk))).2.2⟩
  go_enter Try.func36, Try.ntmps36
  go_wp2_with first
    | (go_at_call 59; (with_reducible_and_instances (refine HA.out.mono ?_)); rintro x w1 ⟨rfl, h1⟩)
    | (go_at_call 59; (with_reducible_and_instances (refine (HA2.out _ h1.out).mono ?_)); rintro x w2 ⟨rfl, h2⟩; have h2a := HAL.out w2 h2.out; have HA3 := HOK.out _ 7 1 h2a.2.1 h2a.1 (by omega) (by omega) a3; rw [HK.out] at HA3; have H2A := hid h2a; clear h2a)
    | (go_at_call 59; refine HA3.mono ?_; rintro x w3 ⟨rfl, h3⟩; clear HA3)
  have HW0 : Hid (ReadW w R ad len cap l w2.heap.size 0 (.slice none 0 0) (fun _ => ⟨none, 0, 0⟩) w3) := hid (by
    have q := H2A.out
    have c3 := q.2.1.trans h3.out.2 (fun k hk => Or.inl hk)
    exact ⟨h3.out.1, (HN0.out _ c3).2.2, (HN0.out _ c3).2.1, q.2.2.1.chg h3.out.2 (by simp; have := q.2.2.2; omega), OwnP.nil _ _ _ _, fun i hi => absurd hi (Nat.not_lt_zero _)⟩)
  have hb3 := H2A.out.2.2.2
  clear h1 h2 h3 H2A HA HA2 HAL C0 HR0
  generalize w2.heap.size = b3 at *
  go_loopw [11] (fun i wr => ∃ j : Nat, j ≤ K ∧ posAt l j ≤ len ∧ i = .int .i64 j ∧ ∃ v A', Hid (ReadW w R ad len cap l b3 j v A' wr)) (fun i _ => K - (intOf i).toNat)
  case atStart => exact ⟨0, by omega, a3, rfl, _, _, HW0⟩
  case round =>
    obtain ⟨j, hj, hjl, rfl, v, A', HW⟩ := hrel
    clear HW0
    by_cases hjk : j < K
    · have hlti : decide ((j : Int) < (K : Int)) = true := by simp; omega
      have HV := hid (HW.out.box.cell 2)
      have HPA : Hid (∀ X, Below wr.heap.size wr X → Bts X ad len cap l R ∧ RdC X R (posAt l j) ad len cap ∧ Chg [R] wr X) := hid (fun X hX => ⟨HBW.out X (HW.out.chg.trans (Chg.of hX) (fun k hk => Or.inl hk)), Blk.later HW.out.rd hX, Chg.of hX⟩)
      by_cases a4 : posAt l (j + 1) ≤ len
      · have HNU : Hid (∀ X, Below wr.heap.size wr X → Calls Try.prog 60 #[.pointer (some ⟨R, 0, none⟩)] X fun e w' => ∃ s : Sl, e = .returned (.agg #[.int .i64 (partAt l (posAt l j)).first, .int .i64 (partAt l (posAt l j)).id, .slice s.ad s.m s.c]) ∧ Hid (NewI w' wr.heap.size (partAt l (posAt l j)).nodes s ∧ RdC w' R (posAt l (j + 1)) ad len cap ∧ Chg [R] wr w')) := hid (fun X hX => (part_any (HPA.out X hX).2.1 (HPA.out X hX).1 hjl).mono (fun e w' h => by
          obtain ⟨⟨s, rfl, hh⟩ | ⟨hn, -⟩, hc⟩ := h
          · exact ⟨s, rfl, hid ⟨hh.out.2.1.down hX.size, hh.out.2.2, (Chg.of hX).trans hc (fun k hk => Or.inl hk)⟩⟩
          · exact absurd a4 hn))
        have HC2 : Hid (∀ w2 (s : Sl), (NewI w2 wr.heap.size (partAt l (posAt l j)).nodes s ∧ RdC w2 R (posAt l (j + 1)) ad len cap ∧ Chg [R] wr w2) → w.heap.size ≤ (w2.alloc (.cells #[.int .i64 (partAt l (posAt l j)).first, .int .i64 (partAt l (posAt l j)).id, .slice s.ad s.m s.c] 61)).heap.size ∧ (Chg [R] wr w2 ∧ Blk w2 b3 #[.int .i64 ((nAt l 0 1 : Nat) : Int), .int .i64 ((nAt l 1 6 : Nat) : Int), v] 28 ∧ RdC w2 R (posAt l (j + 1)) ad len cap ∧ NewI w2 wr.heap.size (partAt l (posAt l j)).nodes s) ∧ OwnP 61 (w2.alloc (.cells #[.int .i64 (partAt l (posAt l j)).first, .int .i64 (partAt l (posAt l j)).id, .slice s.ad s.m s.c] 61)) w.heap.size v (partsAt l j) A') := hid (fun w2 s h2 => by
          obtain ⟨k3, kz, ko, kc⟩ := HW.out.num (by omega) (by omega) h2.2.2
          exact ⟨by have := kc.size; simp; omega, ⟨h2.2.2, k3, h2.2.1, h2.1⟩, ko.later ((Below.refl _ _).alloc (Nat.le_refl _) _)⟩)
        have HSP : Hid (∀ (w2 w3 : World) (s : Sl) (v' : Value), (Chg [R] wr w2 ∧ Blk w2 b3 #[.int .i64 ((nAt l 0 1 : Nat) : Int), .int .i64 ((nAt l 1 6 : Nat) : Int), v] 28 ∧ RdC w2 R (posAt l (j + 1)) ad len cap ∧ NewI w2 wr.heap.size (partAt l (posAt l j)).nodes s) → OwnP 61 w3 w.heap.size v' (partsAt l j ++ [(partAt l (posAt l j))]) (fun i => if i < (partsAt l j).length then A' i else s) → (w2.alloc (.cells #[.int .i64 (partAt l (posAt l j)).first, .int .i64 (partAt l (posAt l j)).id, .slice s.ad s.m s.c] 61)).grownBy w3 v.ownBlock → w3.cell? ⟨b3, 2, none⟩ = some v ∧ w3.frozen? ⟨b3, 2, none⟩ = false ∧ ReadW w R ad len cap l b3 (j + 1) v' (fun i => if i < (partsAt l j).length then A' i else s) (w3.setCell ⟨b3, 2, none⟩ v')) := hid (fun w2 w3 s v' h2 r1 r2 => HW.out.round (by omega) (by omega) (by omega) (by omega) h2.1 h2.2.2.1 h2.2.2.2 _ r1 r2)
        go_wp2_with fail
        refine wp_region_held_drew (S := fun W => True) (by kernel_rfl) (trivial) (fun hHeld => ?_)
        refine wpAnyH_take (i := 0) (oi := { dst := some 13, op := Op.fieldAddr 28 (Operand.tmp 3) 2, type := 0, pos := "bytes.go:54", after := #[], guard := none }) (v := ?_) rfl (by kernel_rfl) (by kernel_rfl) (by kernel_rfl) (fun _ _ _ h => h) (Or.inl ⟨by rfl, ?_⟩) hHeld ?_
        rotate_left
        · intro w hSw; (try dsimp only at hSw); go_simp; try with_reducible rfl
        try simp only [Act.put, List.setIfInBounds_toArray, List.set_cons_zero, List.set_cons_succ]
        refine wpAnyH_take (i := 2) (oi := { dst := some 15, op := Op.move (Operand.tmp 0), type := 96, pos := "bytes.go:54", after := #[], guard := none }) (v := ?_) rfl (by kernel_rfl) (by kernel_rfl) (by kernel_rfl) (fun _ _ _ h => h) (Or.inl ⟨by rfl, ?_⟩) hHeld ?_
        rotate_left
        · intro w hSw; (try dsimp only at hSw); go_simp; try with_reducible rfl
        try simp only [Act.put, List.setIfInBounds_toArray, List.set_cons_zero, List.set_cons_succ]
        refine wpAnyH_ready (rs := [1, 3]) (by kernel_rfl) (by simp) ?_
        refine AllReadyH.cons rfl (fun K hK => ?_) (AllReadyH.cons rfl (fun K hK => ?_) (AllReadyH.nil))
        · skip
          have k2 : wr.cell? ⟨b3, 2, none⟩ = some v := HV.out
          go_simp
          refine hK.out _ _ (trivial) (fun hHeld => ?_)
          clear hK K
          try simp only [Act.put, List.setIfInBounds_toArray, List.set_cons_zero, List.set_cons_succ]
          refine wpAnyH_ready (rs := [3]) (by kernel_rfl) (by simp) ?_
          refine AllReadyH.cons rfl (fun K hK => ?_) (AllReadyH.nil)
          go_simp
          go_wp2_with (go_at_call 60; refine (HNU.out _ ((Below.refl _ wr).drew)).mono ?_; rintro x w2 ⟨s, rfl, hh⟩; have H2 := hid (HC2.out _ s hh.out); clear hh)
          refine hK.out _ _ (trivial) (fun hHeld => ?_)
          clear hK K
          try simp only [Act.put, List.setIfInBounds_toArray, List.set_cons_zero, List.set_cons_succ]
          refine wpAnyH_ready (rs := [4]) (by kernel_rfl) (by simp) ?_
          refine AllReadyH.cons rfl (fun K hK => ?_) (AllReadyH.nil)
          go_simp
          refine hK.out _ _ (trivial) (fun hHeld => ?_)
          clear hK K
          try simp only [Act.put, List.setIfInBounds_toArray, List.set_cons_zero, List.set_cons_succ]
          refine wpAnyH_ready (rs := [5]) (by kernel_rfl) (by simp) ?_
          refine AllReadyH.cons rfl (fun K hK => ?_) (AllReadyH.nil)
          refine step_app_part ptypeC rfl _ _ rfl w.heap.size v (partsAt l j) A' rfl H2.out.2.2 w2.heap.size (partAt l (posAt l j)) s rfl (heap_alloc_new w2 _) (by rw [partsAt_length]; omega) (H2.out.1) ?_
          intro v' w3 r1 r2 r3
          obtain ⟨adv, nv, cv, rfl⟩ := owns_slice' r1
          have HST := hid (HSP.out w2 w3 s _ H2.out.2.1 r1 r2)
          obtain ⟨y2, fy, -⟩ := HST.out
          clear r1 r2 r3
          refine hK.out _ _ (trivial) (fun hHeld => ?_)
          clear hK K
          refine wpAnyH_take (i := 6) (oi := { dst := some 19, op := Op.fieldAddr 28 (Operand.tmp 3) 2, type := 0, pos := "bytes.go:54", after := #[{ on := 0, ground := Ground.phase }, { on := 1, ground := Ground.phase }, { on := 2, ground := Ground.phase }, { on := 3, ground := Ground.phase }, { on := 4, ground := Ground.phase }, { on := 5, ground := Ground.phase }], guard := none }) (v := ?_) rfl (by kernel_rfl) (by kernel_rfl) (by kernel_rfl) (fun _ _ _ h => h) (Or.inl ⟨by rfl, ?_⟩) hHeld ?_
          rotate_left
          · intro w hSw; (try dsimp only at hSw); go_simp; try with_reducible rfl
          refine wpAnyH_ready (rs := [7]) (by kernel_rfl) (by simp) ?_
          refine AllReadyH.cons rfl (fun K hK => ?_) (AllReadyH.nil)
          go_simp
          refine hK.out _ _ (trivial) (fun hHeld => ?_)
          clear hK K
          refine wpAnyH_done (by kernel_rfl) ?_ _
          go_wp2_with fail
          exact ⟨⟨j + 1, by omega, a4, by go_num, _, _, hid HST.out.2.2⟩, by simp [intOf]; omega⟩
        · skip
          go_simp
          go_wp2_with (go_at_call 60; refine (HNU.out _ ((Below.refl _ wr).drew)).mono ?_; rintro x w2 ⟨s, rfl, hh⟩; have H2 := hid (HC2.out _ s hh.out); clear hh)
          refine hK.out _ _ (trivial) (fun hHeld => ?_)
          clear hK K
          try simp only [Act.put, List.setIfInBounds_toArray, List.set_cons_zero, List.set_cons_succ]
          refine wpAnyH_ready (rs := [1, 4]) (by kernel_rfl) (by simp) ?_
          refine AllReadyH.cons rfl (fun K hK => ?_) (AllReadyH.cons rfl (fun K hK => ?_) (AllReadyH.nil))
          · skip
            have k2 : w2.cell? ⟨b3, 2, none⟩ = some v := H2.out.2.1.2.1.cell 2
            go_simp
            refine hK.out _ _ (trivial) (fun hHeld => ?_)
            clear hK K
            try simp only [Act.put, List.setIfInBounds_toArray, List.set_cons_zero, List.set_cons_succ]
            refine wpAnyH_ready (rs := [4]) (by kernel_rfl) (by simp) ?_
            refine AllReadyH.cons rfl (fun K hK => ?_) (AllReadyH.nil)
            go_simp
            refine hK.out _ _ (trivial) (fun hHeld => ?_)
            clear hK K
            try simp only [Act.put, List.setIfInBounds_toArray, List.set_cons_zero, List.set_cons_succ]
            refine wpAnyH_ready (rs := [5]) (by kernel_rfl) (by simp) ?_
            refine AllReadyH.cons rfl (fun K hK => ?_) (AllReadyH.nil)
            refine step_app_part ptypeC rfl _ _ rfl w.heap.size v (partsAt l j) A' rfl H2.out.2.2 w2.heap.size (partAt l (posAt l j)) s rfl (heap_alloc_new w2 _) (by rw [partsAt_length]; omega) (H2.out.1) ?_
            intro v' w3 r1 r2 r3
            obtain ⟨adv, nv, cv, rfl⟩ := owns_slice' r1
            have HST := hid (HSP.out w2 w3 s _ H2.out.2.1 r1 r2)
            obtain ⟨y2, fy, -⟩ := HST.out
            clear r1 r2 r3
            refine hK.out _ _ (trivial) (fun hHeld => ?_)
            clear hK K
            refine wpAnyH_take (i := 6) (oi := { dst := some 19, op := Op.fieldAddr 28 (Operand.tmp 3) 2, type := 0, pos := "bytes.go:54", after := #[{ on := 0, ground := Ground.phase }, { on := 1, ground := Ground.phase }, { on := 2, ground := Ground.phase }, { on := 3, ground := Ground.phase }, { on := 4, ground := Ground.phase }, { on := 5, ground := Ground.phase }], guard := none }) (v := ?_) rfl (by kernel_rfl) (by kernel_rfl) (by kernel_rfl) (fun _ _ _ h => h) (Or.inl ⟨by rfl, ?_⟩) hHeld ?_
            rotate_left
            · intro w hSw; (try dsimp only at hSw); go_simp; try with_reducible rfl
            refine wpAnyH_ready (rs := [7]) (by kernel_rfl) (by simp) ?_
            refine AllReadyH.cons rfl (fun K hK => ?_) (AllReadyH.nil)
            go_simp
            refine hK.out _ _ (trivial) (fun hHeld => ?_)
            clear hK K
            refine wpAnyH_done (by kernel_rfl) ?_ _
            go_wp2_with fail
            exact ⟨⟨j + 1, by omega, a4, by go_num, _, _, hid HST.out.2.2⟩, by simp [intOf]; omega⟩
          · skip
            go_simp
            refine hK.out _ _ (trivial) (fun hHeld => ?_)
            clear hK K
            try simp only [Act.put, List.setIfInBounds_toArray, List.set_cons_zero, List.set_cons_succ]
            refine wpAnyH_ready (rs := [1]) (by kernel_rfl) (by simp) ?_
            refine AllReadyH.cons rfl (fun K hK => ?_) (AllReadyH.nil)
            have k2 : (w2.alloc (.cells #[.int .i64 (partAt l (posAt l j)).first, .int .i64 (partAt l (posAt l j)).id, .slice s.ad s.m s.c] 61)).cell? ⟨b3, 2, none⟩ = some v := (H2.out.2.1.2.1.later ((Below.refl _ _).alloc (Nat.le_refl _) _)).cell 2
            go_simp
            refine hK.out _ _ (trivial) (fun hHeld => ?_)
            clear hK K
            try simp only [Act.put, List.setIfInBounds_toArray, List.set_cons_zero, List.set_cons_succ]
            refine wpAnyH_ready (rs := [5]) (by kernel_rfl) (by simp) ?_
            refine AllReadyH.cons rfl (fun K hK => ?_) (AllReadyH.nil)
            refine step_app_part ptypeC rfl _ _ rfl w.heap.size v (partsAt l j) A' rfl H2.out.2.2 w2.heap.size (partAt l (posAt l j)) s rfl (heap_alloc_new w2 _) (by rw [partsAt_length]; omega) (H2.out.1) ?_
            intro v' w3 r1 r2 r3
            obtain ⟨adv, nv, cv, rfl⟩ := owns_slice' r1
            have HST := hid (HSP.out w2 w3 s _ H2.out.2.1 r1 r2)
            obtain ⟨y2, fy, -⟩ := HST.out
            clear r1 r2 r3
            refine hK.out _ _ (trivial) (fun hHeld => ?_)
            clear hK K
            refine wpAnyH_take (i := 6) (oi := { dst := some 19, op := Op.fieldAddr 28 (Operand.tmp 3) 2, type := 0, pos := "bytes.go:54", after := #[{ on := 0, ground := Ground.phase }, { on := 1, ground := Ground.phase }, { on := 2, ground := Ground.phase }, { on := 3, ground := Ground.phase }, { on := 4, ground := Ground.phase }, { on := 5, ground := Ground.phase }], guard := none }) (v := ?_) rfl (by kernel_rfl) (by kernel_rfl) (by kernel_rfl) (fun _ _ _ h => h) (Or.inl ⟨by rfl, ?_⟩) hHeld ?_
            rotate_left
            · intro w hSw; (try dsimp only at hSw); go_simp; try with_reducible rfl
            refine wpAnyH_ready (rs := [7]) (by kernel_rfl) (by simp) ?_
            refine AllReadyH.cons rfl (fun K hK => ?_) (AllReadyH.nil)
            go_simp
            refine hK.out _ _ (trivial) (fun hHeld => ?_)
            clear hK K
            refine wpAnyH_done (by kernel_rfl) ?_ _
            go_wp2_with fail
            exact ⟨⟨j + 1, by omega, a4, by go_num, _, _, hid HST.out.2.2⟩, by simp [intOf]; omega⟩
      · have HNU : Hid (∀ X, Below wr.heap.size wr X → Calls Try.prog 60 #[.pointer (some ⟨R, 0, none⟩)] X fun e w' => e = .panicked (refusal 22) ∧ Chg [R] w w') := hid (fun X hX => (part_any (HPA.out X hX).2.1 (HPA.out X hX).1 hjl).mono (fun e w' h => by
          obtain ⟨⟨s, rfl, hh⟩ | ⟨-, rfl⟩, hc⟩ := h
          · exact absurd hh.out.1 a4
          · exact ⟨rfl, (HW.out.chg.trans (Chg.of hX) (fun k hk => Or.inl hk)).trans hc (fun k hk => Or.inl hk)⟩))
        have HNE : Hid (¬ posAt l K ≤ len) := hid (by have := posAt_mono l (show j + 1 ≤ K by omega); omega)
        go_wp2_with fail
        refine wp_region_held_drew (S := fun W => True) (by kernel_rfl) (trivial) (fun hHeld => ?_)
        refine wpAnyH_take (i := 0) (oi := { dst := some 13, op := Op.fieldAddr 28 (Operand.tmp 3) 2, type := 0, pos := "bytes.go:54", after := #[], guard := none }) (v := ?_) rfl (by kernel_rfl) (by kernel_rfl) (by kernel_rfl) (fun _ _ _ h => h) (Or.inl ⟨by rfl, ?_⟩) hHeld ?_
        rotate_left
        · intro w hSw; (try dsimp only at hSw); go_simp; try with_reducible rfl
        try simp only [Act.put, List.setIfInBounds_toArray, List.set_cons_zero, List.set_cons_succ]
        refine wpAnyH_take (i := 2) (oi := { dst := some 15, op := Op.move (Operand.tmp 0), type := 96, pos := "bytes.go:54", after := #[], guard := none }) (v := ?_) rfl (by kernel_rfl) (by kernel_rfl) (by kernel_rfl) (fun _ _ _ h => h) (Or.inl ⟨by rfl, ?_⟩) hHeld ?_
        rotate_left
        · intro w hSw; (try dsimp only at hSw); go_simp; try with_reducible rfl
        try simp only [Act.put, List.setIfInBounds_toArray, List.set_cons_zero, List.set_cons_succ]
        refine wpAnyH_ready (rs := [1, 3]) (by kernel_rfl) (by simp) ?_
        refine AllReadyH.cons rfl (fun K hK => ?_) (AllReadyH.cons rfl (fun K hK => ?_) (AllReadyH.nil))
        · skip
          have k2 : wr.cell? ⟨b3, 2, none⟩ = some v := HV.out
          go_simp
          refine hK.out _ _ (trivial) (fun hHeld => ?_)
          clear hK K
          try simp only [Act.put, List.setIfInBounds_toArray, List.set_cons_zero, List.set_cons_succ]
          refine wpAnyH_ready (rs := [3]) (by kernel_rfl) (by simp) ?_
          refine AllReadyH.cons rfl (fun K hK => ?_) (AllReadyH.nil)
          go_simp
          go_wp2_with (go_at_call 60; refine (HNU.out _ ((Below.refl _ wr).drew)).mono ?_; rintro x w2 ⟨rfl, hb⟩)
          exact ⟨rfl, Or.inr ⟨HNE.out, rfl⟩, hb⟩
        · skip
          go_simp
          go_wp2_with (go_at_call 60; refine (HNU.out _ ((Below.refl _ wr).drew)).mono ?_; rintro x w2 ⟨rfl, hb⟩)
          exact ⟨rfl, Or.inr ⟨HNE.out, rfl⟩, hb⟩
    · obtain rfl : j = K := by omega
      have hlti : decide ((j : Int) < (j : Int)) = false := by simp
      have hnodes : ∀ i, i < j → (ptAt (partsAt l j) i) = partAt l (posAt l i) := fun i hi => by unfold ptAt partsAt; rw [List.getD_eq_getElem?_getD, List.getElem?_map, List.getElem?_range hi]; rfl
      have hown := HW.out.own
      have hform := hown.form (fun i hi => by
        rw [partsAt_length] at hi
        rw [hnodes i hi]
        exact ⟨(HW.out.new i hi).ints, (HW.out.new i hi).nil⟩) (fun i hi => by
        rw [partsAt_length] at hi
        rw [hnodes i hi]
        have e1 := HRG.out (posAt l i) 6
        have e2 := HRG.out (posAt l i + 6) 6
        unfold partAt
        simp only
        omega)
      rw [partsAt_length] at hform
      obtain ⟨ad', c', rfl, hA, hbl⟩ := hform
      have HCA : Hid (CAns wr w.heap.size (partsAt l j) ad' j c') := hid ⟨A', hA, ⟨fun _ b off e => hbl b off e, fun i hi h0 b off e => ((HW.out.new i hi).new h0 b off e).1⟩, fun i hi h0 b off e => ((HW.out.new i hi).new h0 b off e).2⟩
      clear hown hA hbl hnodes
      have q0 : wr.cell? ⟨b3, 0, none⟩ = some (.int .i64 ((nAt l 0 1 : Nat) : Int)) := HW.out.box.cell 0
      have q1 : wr.cell? ⟨b3, 1, none⟩ = some (.int .i64 ((nAt l 1 6 : Nat) : Int)) := HW.out.box.cell 1
      have q2 : wr.cell? ⟨b3, 2, none⟩ = some (.slice ad' j c') := HW.out.box.cell 2
      have z0 : wr.cell? ⟨w.heap.size, 0, none⟩ = some (.int .i64 0) := HW.out.res.cell 0
      have z1 : wr.cell? ⟨w.heap.size, 1, none⟩ = some (.int .i64 0) := HW.out.res.cell 1
      have z2 : wr.cell? ⟨w.heap.size, 2, none⟩ = some (.slice none 0 0) := HW.out.res.cell 2
      have f0 := HW.out.res.free 0
      have f1 := HW.out.res.free 1
      have f2 := HW.out.res.free 2
      go_wp2_with fail
      have m0 := ((HW.out.res.set 0 (.int .i64 ((nAt l 0 1 : Nat) : Int))).set 1 (.int .i64 ((nAt l 1 6 : Nat) : Int))).set 2 (.slice ad' j c')
      have s0 : (((wr.setCell ⟨w.heap.size, 0, none⟩ (.int .i64 ((nAt l 0 1 : Nat) : Int))).setCell ⟨w.heap.size, 1, none⟩ (.int .i64 ((nAt l 1 6 : Nat) : Int))).setCell ⟨w.heap.size, 2, none⟩ (.slice ad' j c')).cell? ⟨w.heap.size, 0, none⟩ = some (.int .i64 ((nAt l 0 1 : Nat) : Int)) := m0.cell 0
      have s1 : (((wr.setCell ⟨w.heap.size, 0, none⟩ (.int .i64 ((nAt l 0 1 : Nat) : Int))).setCell ⟨w.heap.size, 1, none⟩ (.int .i64 ((nAt l 1 6 : Nat) : Int))).setCell ⟨w.heap.size, 2, none⟩ (.slice ad' j c')).cell? ⟨w.heap.size, 1, none⟩ = some (.int .i64 ((nAt l 1 6 : Nat) : Int)) := m0.cell 1
      have s2 : (((wr.setCell ⟨w.heap.size, 0, none⟩ (.int .i64 ((nAt l 0 1 : Nat) : Int))).setCell ⟨w.heap.size, 1, none⟩ (.int .i64 ((nAt l 1 6 : Nat) : Int))).setCell ⟨w.heap.size, 2, none⟩ (.slice ad' j c')).cell? ⟨w.heap.size, 2, none⟩ = some (.slice ad' j c') := m0.cell 2
      have hcg : Chg [w.heap.size] wr (((wr.setCell ⟨w.heap.size, 0, none⟩ (.int .i64 ((nAt l 0 1 : Nat) : Int))).setCell ⟨w.heap.size, 1, none⟩ (.int .i64 ((nAt l 1 6 : Nat) : Int))).setCell ⟨w.heap.size, 2, none⟩ (.slice ad' j c')) := (((Chg.refl _ wr).set (Or.inl (by simp)) _ _).set (Or.inl (by simp)) _ _).set (Or.inl (by simp)) _ _
      refine bodyPost_ret (v := .agg #[.int .i64 ((nAt l 0 1 : Nat) : Int), .int .i64 ((nAt l 1 6 : Nat) : Int), .slice ad' j c']) (by simp [results, Try.results36, go_sem, s0, s1, s2]) rfl ⟨Or.inl ⟨ad', c', rfl, hid ⟨hjl, ?_, ?_⟩⟩, ?_⟩
      · obtain ⟨A9, g1, g2, g3⟩ := HCA.out.arg
        have hr := HW.out.res
        have nn : ∀ b, w.heap.size ≤ b → (∀ i off, i < j → (A9 i).m ≠ 0 → (A9 i).ad = some ⟨b, off, none⟩ → b ∉ [w.heap.size]) := fun b _ i off hi h0 e hm => by
          simp at hm
          subst hm
          obtain ⟨cur, hc⟩ := g3 i hi h0 _ off e
          rw [hr] at hc
          simp at hc
        have nrow : j ≠ 0 → ∀ b off, ad' = some ⟨b, off, none⟩ → b ∉ [w.heap.size] := fun h0 b off e hm => by
          simp at hm
          subst hm
          have ho := HW.out.own
          obtain ⟨cur, hc⟩ := owns_typed ho w.heap.size (by rw [e]; rcases ho.2 with ⟨hv, hz⟩ | ⟨g, cap', cur, hv, -⟩
                                                            · rw [partsAt_length] at hz; exact absurd hz h0
                                                            · rw [e] at hv; simp only [Value.slice.injEq, Option.some.injEq, Addr.mk.injEq] at hv; obtain ⟨⟨hg, ho, -⟩, -⟩ := hv; subst hg; subst ho; simp [Value.ownBlock])
          rw [hr] at hc
          simp at hc
        exact ⟨A9, g1.chg hcg ⟨nrow, fun i hi h0 b off e => nn b (g2.ints i hi h0 b off e) i off hi h0 e⟩, g2, g3.chg hcg (fun i hi h0 b off e => nn b (g2.ints i hi h0 b off e) i off hi h0 e)⟩
      · exact Blk.chg HW.out.rd hcg (by simp; omega)
      · exact HW.out.chg.trans hcg (fun k hk => by simp at hk; subst hk; exact Or.inr (Nat.le_refl _))
end Go.Proofs.Ythadagpfmacemaa
