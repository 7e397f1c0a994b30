/- parts of package store: the iterator over an entry's blocks. -/
import Derived.Test.YtikomnbhmmjfnaaGreatRangeR
import Derived.Test.YtikomnbhmmjfnaaGreatSTell
import Derived.Test.YtikomnbhmmjfnaaGreatSSmall
import Derived.Shelf.Abstract
import Derived.Shelf.RegionOpen
import Derived.Stop.RegionWithIn
import Derived.OwnWalkIn
import Derived.TacticsInMore
import Derived.LoopNIn
import Derived.LoopIn
namespace Go.Proofs.YtikomnbhmmjfnaaGreat
open Go.RowKit Go.Shelf

/-- What the rounds of a loop leave: the blocks Gs. -/
def Kg (Gs : List Nat) (X Y : World) : Prop := X.heap.size ≤ Y.heap.size ∧ ∀ g ∈ Gs, Y.heap[g]? = X.heap[g]?
theorem Kg.refl (Gs : List Nat) (X : World) : Kg Gs X X := ⟨Nat.le_refl _, fun _ _ => rfl⟩
theorem Kg.trans {Gs : List Nat} {X Y Z : World} (h : Kg Gs X Y) (k : Kg Gs Y Z) : Kg Gs X Z := ⟨Nat.le_trans h.1 k.1, fun g hg => (k.2 g hg).trans (h.2 g hg)⟩
theorem Kg.below {Gs : List Nat} {X Y : World} (h : Below X.heap.size X Y) (hl : ∀ g ∈ Gs, g < X.heap.size) : Kg Gs X Y := ⟨h.size, fun g hg => h.block g (hl g hg)⟩
theorem Kg.cell {Gs : List Nat} {X Y : World} (h : Kg Gs X Y) {g i : Nat} (hg : g ∈ Gs) : Y.cell? ⟨g, i, none⟩ = X.cell? ⟨g, i, none⟩ := by simp only [World.cell?, h.2 g hg]
theorem Kg.part {Gs : List Nat} {X Y : World} (h : Kg Gs X Y) {p : Part} (hp : p.ok X) (hg : ∀ b off, p.ad = some ⟨b, off, none⟩ → p.l ≠ [] → b ∈ Gs) : p.ok Y := by
  refine ⟨hp.1, hp.2.1, hp.2.2.1, ?_⟩
  rcases hp.2.2.2 with h0 | ⟨b, off, e, hb, hc⟩
  · exact Or.inl h0
  · by_cases h0 : p.l = []
    · exact Or.inl h0
    · exact Or.inr ⟨b, off, e, Nat.lt_of_lt_of_le hb h.1, fun i hi => by rw [h.cell (hg b off e h0)]; exact hc i hi⟩
/-- Round k is handed block k. -/
def RowR (xs : List (Nat × List Nat)) (k : Nat) (args : Array Value) (X : World) : Prop := ∃ (x : Nat × List Nat) (q : Part), xs[k]? = some x ∧ args = #[.int .i64 (x.1 : Int), .slice q.ad q.len q.cap] ∧ q.l = x.2 ∧ q.ok X
theorem YieldAt.mono {F : Fence} {m : Nat} {P : Program} {l : Nat} {args : Array Value} {W : World} {R R' : Ending → World → Prop} (h : YieldAt F m P l args W R) (hR : ∀ e Y, R e Y → R' e Y) : YieldAt F m P l args W R' := by
  obtain ⟨fn, tmps, assign, body, hy, hr⟩ := h
  exact ⟨fn, tmps, assign, body, hy, hr.mono hR⟩
theorem piece_ok {X : World} {ad : Option Addr} {len cap k m : Nat} {text : List Nat} (h : Part.ok X ⟨ad, len, cap, text⟩) (hlc : len ≤ cap) (hq : k * 240 < len) (hm : m = min 240 (len - k * 240)) : Part.ok X ⟨Option.map (fun x => x.add (k * 240)) ad, m, cap - k * 240, pieceN text k⟩ := by
  have h1 := cutP_ok h (k * 240) m (by show k * 240 + m ≤ len; omega) hlc
  have e : cutP ⟨ad, len, cap, text⟩ (k * 240) m = ⟨Option.map (fun x => x.add (k * 240)) ad, m, cap - k * 240, pieceN text k⟩ := by
    unfold cutP
    rw [if_neg (by show ¬ cap = k * 240; omega)]
    have h2 : text.length = len := h.1
    have h3 : (text.drop (k * 240)).take m = pieceN text k := by
      unfold pieceN
      by_cases h4 : 240 ≤ len - k * 240
      · rw [show m = 240 by omega]
      · rw [List.take_of_length_le (by simp; omega), List.take_of_length_le (by simp; omega)]
    simp only [h3]
  rw [e] at h1
  exact h1
theorem parts_lt {k n : Nat} (h : k < partsN n) : k * 240 < n := by unfold partsN at h; omega
theorem parts_ge {k n : Nat} (h : ¬ k < partsN n) : n ≤ k * 240 := by unfold partsN at h; omega
set_option maxRecDepth 100000 in
set_option maxHeartbeats 400000 in
theorem parts_seq (p number : Nat) (ad : Option Addr) (len cap : Nat) (text : List Nat) (gt ga gn : Nat) (Gs : List Nat) (w : World) (K : Nat → World → Prop) (ha : Part.ok w ⟨ad, len, cap, text⟩) (hlc : len ≤ cap) (hlen : len ≤ 1000000) (hnum : number < 281474976710656) (hp : p ≤ 1000000)
    (ct : w.cell? ⟨gt, 0, none⟩ = some (.slice ad len cap)) (ca : w.cell? ⟨ga, 0, none⟩ = some (.int .i64 (p : Int))) (cn : w.cell? ⟨gn, 0, none⟩ = some (.int .i64 (number : Int)))
    (ht : gt ∈ Gs) (hga : ga ∈ Gs) (hgn : gn ∈ Gs) (htx : ∀ b off, ad = some ⟨b, off, none⟩ → text ≠ [] → b ∈ Gs) (hlt : ∀ g ∈ Gs, g < w.heap.size) :
    SeqR Tryz.prog 110 #[.pointer (some ⟨gt, 0, none⟩), .pointer (some ⟨ga, 0, none⟩), .pointer (some ⟨gn, 0, none⟩)] (Kg Gs) K (RowR (rowAt p (blocksN number text))) (partsN len) w := by
  intro l J Jx W hW hJ _ _ hY h0
  obtain ⟨N, hN⟩ : ∃ N, partsN len = N := ⟨_, rfl⟩
  have hN2 : N ≤ 5000 := by unfold partsN at hN; omega
  have hk0 : Kg Gs w W := Kg.below hW hlt
  have HK0 : Hid (Kg Gs w W) := hk0
  have HA : Hid (Part.ok w ⟨ad, len, cap, text⟩) := ha
  have HJ : Hid (∀ k X Y, J k X → Below X.heap.size X Y → J k Y) := hJ
  have HT : Hid (∀ b off, ad = some ⟨b, off, none⟩ → text ≠ [] → b ∈ Gs) := htx
  have HL : Hid (∀ g ∈ Gs, g < w.heap.size) := hlt
  have HN : Hid (partsN len = N) := hN
  rw [hN] at hY ⊢
  have HY : Hid (∀ k args X, k < N → J k X → RowR (rowAt p (blocksN number text)) k args X → YieldAt Fence.wide 1 Tryz.prog l args X fun e Y => (e = .returned (.bool true) ∧ J (k + 1) Y ∧ Kg Gs X Y) ∨ (e = .returned (.bool false) ∧ Jx (k + 1) Y)) := hY
  have hcnt := fun X => count_any len X (by omega)
  rw [hN] at hcnt
  have HC : Hid (w.cell? ⟨gt, 0, none⟩ = some (.slice ad len cap) ∧ w.cell? ⟨ga, 0, none⟩ = some (.int .i64 (p : Int)) ∧ w.cell? ⟨gn, 0, none⟩ = some (.int .i64 (number : Int))) := ⟨ct, ca, cn⟩
  have ct0 := (hk0.cell ht (i := 0)).trans ct
  clear hW hJ hY ha htx hlt hN hk0 ct ca cn
  refine callsIn_of_wp Tryz.func110 rfl trivial ?_ rfl
  simp only [Tryz.ntmps110, List.size_toArray, List.length_cons, List.length_nil, Nat.reduceAdd, Nat.reduceSub, Array.replicate_succ, Array.replicate_zero, List.push_toArray, List.append_toArray, List.nil_append, List.cons_append]
  gi_wp2_with (refine ⟨trivial, ?_⟩; gi_at_call 109; refine (callsIn_wide.2 (hcnt _)).mono ?_; rintro e w' ⟨rfl, hw'⟩; obtain rfl := hw'.symm)
  gi_loopw [12] (fun i wr => ∃ k : Nat, k ≤ N ∧ i = .int .i64 k ∧ Hid (J k wr) ∧ Hid (Kg Gs w wr)) (fun i _ => N - (intOf i).toNat)
  case atStart => exact ⟨0, Nat.zero_le _, rfl, h0, HK0⟩
  case round =>
    obtain ⟨k, hk, rfl, HJk, HKk⟩ := hrel
    by_cases hkl : k < N
    · obtain ⟨ct, ca, cn⟩ := HC.out
      have c1 := (HKk.out.cell ht (i := 0)).trans ct
      have c2 := (HKk.out.cell hga (i := 0)).trans ca
      have c3 := (HKk.out.cell hgn (i := 0)).trans cn
      have hq : k * 240 < len := parts_lt (by rw [HN.out]; exact hkl)
      clear ct ca cn ct0
      have HD : Hid (∀ m, m = min 240 (len - k * 240) → ∀ X, Below wr.heap.size wr X → Part.ok X ⟨Option.map (fun x => x.add (k * 240)) ad, m, cap - k * 240, pieceN text k⟩) := fun m hm X hX => piece_ok ((HKk.out.part HA.out HT.out).later hX) hlc hq hm
      have HYk : Hid (∀ (q : Part) X, Below wr.heap.size wr X → q.l = partN number k N (pieceN text k) → q.ok X → YieldAt Fence.wide 1 Tryz.prog l #[.int .i64 ((p : Int) + (k : Int)), .slice q.ad q.len q.cap] X fun e Y => ∃ b : Bool, e = .returned (.bool b) ∧ Hid ((b = true → J (k + 1) Y ∧ Kg Gs X Y) ∧ (b = false → Jx (k + 1) Y))) := fun q X hX hql hqo => by
        refine YieldAt.mono (HY.out k _ X hkl (HJ.out k wr X HJk.out hX) ⟨(p + k, partN number k N (pieceN text k)), q, ?_, by simp [Int.natCast_add], hql, hqo⟩) ?_
        · rw [rowAt_at, blocksN_at _ _ _ (by rw [HA.out.1, HN.out]; exact hkl), HA.out.1, HN.out]; rfl
        · rintro e Y (⟨rfl, h1⟩ | ⟨rfl, h1⟩)
          · exact ⟨true, rfl, fun _ => h1, fun h => (by cases h)⟩
          · exact ⟨false, rfl, fun h => (by cases h), fun _ => h1⟩
      by_cases hge : (k + 1) * 240 ≤ len
      · have hge2 : ((k : Int) + 1) * 240 ≤ (len : Int) := by omega
        gi_wp2
        generalize hm : (k + 1) * 240 - k * 240 = m
        have hm2 : m = min 240 (len - k * 240) := by omega
        have hm3 : m ≤ 240 := by omega
        have hgl : ga < wr.drew.heap.size := Nat.lt_of_lt_of_le (HL.out ga hga) HKk.out.1
        have c2d : wr.drew.cell? ⟨ga, 0, none⟩ = some (.int .i64 (p : Int)) := c2
        have hwr : IntKind.i64.wrap ((p : Int) + (k : Int)) = (p : Int) + (k : Int) := by rw [IntKind.wrap_i64]; omega
        have HDm := hide (HD.out m hm2)
        clear HD hm2 hm hge hge2 hq HA HT c1
        generalize Option.map (fun x => Addr.add x (k * 240)) ad = a1 at *
        generalize cap - k * 240 = cp at *
        gi_region_with (first
          | (refine ⟨trivial, ?_⟩; gi_at_call 111; (with_reducible_and_instances (refine (callsIn_wide.2 (tell_any number k N a1 m cp (pieceN text k) _ hnum ?hk ?hN ?hp ?hm)).mono ?_)); (case hk => omega); (case hN => omega); (case hp => exact HDm.out _ ((Below.refl _ wr).drew)); (case hm => exact hm3); rintro e w2 ⟨q, rfl, e2, k2, o2, b2⟩; obtain ⟨fn, tmps, assign, body, hy, hR⟩ := HYk.out q w2 (((Below.refl _ wr).drew).trans b2) e2.out k2.out; have HRd := hide hR; have c2w := (b2.cell (p := ⟨ga, 0, none⟩) hgl).trans c2d; have HB2 := hide (((Below.refl wr.heap.size wr).drew).trans b2); clear hR e2 k2 o2 b2)
          | (refine HRd.out.mono ?_; rintro e W3 ⟨b, rfl, hb⟩))
        all_goals
          cases b
          · have HX := hide (hb.out.2 rfl)
            clear hb
            gi_wp2
            refine bodyPost_ret (results_none rfl _ _ _) rfl ?_
            exact ⟨⟨_, rfl⟩, .inr ⟨k + 1, by omega, HX.out⟩⟩
          · have HJn := hide (hb.out.1 rfl).1
            have HKn := hide (HKk.out.trans ((Kg.below HB2.out (fun g hg => Nat.lt_of_lt_of_le (HL.out g hg) HKk.out.1)).trans (hb.out.1 rfl).2))
            clear hb
            gi_wp2
            go_roundw
            case rel => exact ⟨k + 1, by omega, by go_num, HJn, HKn⟩
            case measure => simp [intOf]; omega
      · have hge2 : (len : Int) < ((k : Int) + 1) * 240 := by omega
        gi_wp2
        generalize hm : len - k * 240 = m at *
        have hm2 : m = min 240 m := by omega
        have hm3 : m ≤ 240 := by omega
        have hgl : ga < wr.drew.heap.size := Nat.lt_of_lt_of_le (HL.out ga hga) HKk.out.1
        have c2d : wr.drew.cell? ⟨ga, 0, none⟩ = some (.int .i64 (p : Int)) := c2
        have hwr : IntKind.i64.wrap ((p : Int) + (k : Int)) = (p : Int) + (k : Int) := by rw [IntKind.wrap_i64]; omega
        have HDm := hide (HD.out m hm2)
        clear HD hm2 hm hge hge2 hq HA HT c1
        generalize Option.map (fun x => Addr.add x (k * 240)) ad = a1 at *
        generalize cap - k * 240 = cp at *
        gi_region_with (first
          | (refine ⟨trivial, ?_⟩; gi_at_call 111; (with_reducible_and_instances (refine (callsIn_wide.2 (tell_any number k N a1 m cp (pieceN text k) _ hnum ?hk ?hN ?hp ?hm)).mono ?_)); (case hk => omega); (case hN => omega); (case hp => exact HDm.out _ ((Below.refl _ wr).drew)); (case hm => exact hm3); rintro e w2 ⟨q, rfl, e2, k2, o2, b2⟩; obtain ⟨fn, tmps, assign, body, hy, hR⟩ := HYk.out q w2 (((Below.refl _ wr).drew).trans b2) e2.out k2.out; have HRd := hide hR; have c2w := (b2.cell (p := ⟨ga, 0, none⟩) hgl).trans c2d; have HB2 := hide (((Below.refl wr.heap.size wr).drew).trans b2); clear hR e2 k2 o2 b2)
          | (refine HRd.out.mono ?_; rintro e W3 ⟨b, rfl, hb⟩))
        all_goals
          cases b
          · have HX := hide (hb.out.2 rfl)
            clear hb
            gi_wp2
            refine bodyPost_ret (results_none rfl _ _ _) rfl ?_
            exact ⟨⟨_, rfl⟩, .inr ⟨k + 1, by omega, HX.out⟩⟩
          · have HJn := hide (hb.out.1 rfl).1
            have HKn := hide (HKk.out.trans ((Kg.below HB2.out (fun g hg => Nat.lt_of_lt_of_le (HL.out g hg) HKk.out.1)).trans (hb.out.1 rfl).2))
            clear hb
            gi_wp2
            go_roundw
            case rel => exact ⟨k + 1, by omega, by go_num, HJn, HKn⟩
            case measure => simp [intOf]; omega
    · obtain rfl : k = N := by omega
      gi_wp2
      go_end0
      exact ⟨⟨_, rfl⟩, .inl HJk.out⟩
end Go.Proofs.YtikomnbhmmjfnaaGreat
