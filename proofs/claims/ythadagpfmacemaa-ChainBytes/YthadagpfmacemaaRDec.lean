/- Decode of the document's package (by genrdec.py). -/
import Derived.Test.YthadagpfmacemaaRDecM
import Derived.Test.YthadagpfmacemaaRChk
import Derived.Test.YthadagpfmacemaaCAppR
namespace Go.Proofs.Ythadagpfmacemaa.Rf
open Go.RowKit
variable {w w' : World} {ad : Option Addr} {len cap : Nat} {l : List Nat}

/-- What the head of a chain says. -/
def HD (l : List Nat) (xo xt : Int) (xn : Nat) : Prop := xo = ((nAt l 0 1 : Nat) : Int) ∧ xt = ((nAt l 1 6 : Nat) : Int) ∧ xn = cntAt l
theorem chead {x1 q1 x2 q2 x3 q3 : Nat} {b1 b2 b3 : Bool} (h1 : Step l len 0 false 1 x1 q1 b1) (h2 : Step l len q1 b1 6 x2 q2 b2) (h3 : Step l len q2 b2 1 x3 q3 b3) : (b3 = false → q3 = 8 ∧ 8 ≤ len ∧ HD l ((x1 : Nat) : Int) ((x2 : Nat) : Int) x3) ∧ (b3 = true → ¬ 8 ≤ len ∧ x3 = 0) := by
  rcases h3 with ⟨rfl, e3, rfl, rfl, rfl⟩ | ⟨rfl, rfl, rfl, e3⟩
  · rcases h2 with ⟨rfl, e2, rfl, rfl, -⟩ | ⟨h, -⟩
    · rcases h1 with ⟨-, e1, rfl, rfl, -⟩ | ⟨h, -⟩
      · exact ⟨fun _ => ⟨rfl, by omega, rfl, rfl, rfl⟩, fun h => by cases h⟩
      · cases h
    · cases h
  · refine ⟨fun h => (by cases h), fun _ => ⟨?_, rfl⟩⟩
    rcases h2 with ⟨rfl, e2, -, rfl, rfl⟩ | ⟨rfl, -, rfl, e2⟩
    · rcases h1 with ⟨-, e1, -, rfl, -⟩ | ⟨e1, -, -, -⟩
      · rcases e3 with e3 | e3
        · cases e3
        · omega
      · cases e1
    · rcases h1 with ⟨-, e1, -, rfl, rfl⟩ | ⟨rfl, -, rfl, e1⟩
      · rcases e2 with e2 | e2
        · cases e2
        · omega
      · rcases e1 with e1 | e1
        · cases e1
        · omega
/-- What is known of the nodes of a part in its midst. -/
def InR (l : List Nat) (len p q3 : Nat) (b3 : Bool) (q : Nat) (bad : Bool) (k : Nat) (L2 : List Int) : Prop := L2.length = k ∧ q ≤ len ∧ (bad = false → b3 = false ∧ q = q3 + k ∧ L2 = nodesAt l q3 k) ∧ (bad = true → ¬ partEnd l p ≤ len) ∧ ∀ y ∈ L2, 0 ≤ y ∧ y < 281474976710656
theorem InR.step {p q3 q k x q5 x3 : Nat} {b3 b5 : Bool} {L2 : List Int} (h : InR l len p q3 b3 q false k L2) (hs : Step l len q false 1 x q5 b5) (hl : ∀ y ∈ l, y < 256) (hk : k < x3) (hq3 : b3 = false → q3 = p + 13 ∧ x3 = nAt l (p + 12) 1) : InR l len p q3 b3 q5 b5 (k + 1) (L2 ++ [((x : Nat) : Int)]) := by
  obtain ⟨h1, h2, h3, h4, h5⟩ := h
  obtain ⟨e1, e2, e3⟩ := h3 rfl
  refine ⟨by simp [h1], hs.le h2, fun hb => ?_, fun hb => ?_, fun y hy => ?_⟩
  · rcases hs with ⟨-, e, rfl, rfl, -⟩ | ⟨e, -⟩
    · subst e2
      subst e3
      exact ⟨e1, by omega, (nodesAt_succ l q3 k).symm⟩
    · rw [hb] at e; cases e
  · rcases hs with ⟨-, -, -, -, e⟩ | ⟨-, -, -, e⟩
    · rw [hb] at e; cases e
    · rcases e with e | e
      · cases e
      · obtain ⟨e4, e5⟩ := hq3 e1
        unfold partEnd
        omega
  · rcases List.mem_append.1 hy with hy | hy
    · exact h5 y hy
    · simp at hy
      subst hy
      have := hs.one hl
      omega
set_option maxRecDepth 100000 in
set_option maxHeartbeats 8000000 in
theorem decode_any (hp : Part.ok w ⟨ad, len, cap, l⟩) (hlc : len ≤ cap) (hm : len ≤ 1000000000000000) (n : Int) : Calls Try.prog 12 #[.slice ad len cap, .int .i64 n] w fun x w' =>
      ∃ ad' m' c', x = .returned (.tuple #[.agg #[.int .i64 (decC l n).owner, .int .i64 (decC l n).trim, .slice ad' m' c'], .int .i64 (decE l n)]) ∧ Hid (CAns w' w.heap.size (decC l n).parts ad' m' c') ∧ Below w.heap.size w w' := by
  have HLN : Hid (l.length = len) := hid hp.1
  have HLT : Hid (∀ y ∈ l, y < 256) := hid hp.2.2.1
  by_cases a1 : n ≤ 256
  case neg =>
    have HE := hid (decE_6 (l := l) a1)
    have d1 : decide (256 < n) = true := by simp; omega
    have n0 : Hid (Below w.heap.size w (w.alloc (.cells #[.int .i64 0, .int .i64 0, .slice none 0 0] 24))) := hid ((Below.refl _ _).alloc (Nat.le_refl _) _)
    have HC0 : Hid (Blk (w.alloc (.cells #[.int .i64 0, .int .i64 0, .slice none 0 0] 24)) w.heap.size #[.int .i64 0, .int .i64 0, .slice none 0 0] 24) := hid (heap_alloc_new w _)
    clear hp a1
    go_enter Try.func12, Try.ntmps12
    go_wp2_with fail
    refine bodyPost_ret (v := .tuple #[.agg #[.int .i64 0, .int .i64 0, .slice none 0 0], .int .i64 6]) (by simp [results, Try.results12, go_sem]) rfl ⟨none, 0, 0, by rw [decC_no (by rw [HE.out]; decide), HE.out], hid (by rw [decC_no (by rw [HE.out]; decide)]; exact CAns.none _ _), n0.out⟩
  have d1 : decide (256 < n) = false := by simp; omega
  have n1 : Below w.heap.size w ((w.alloc (.cells #[.int .i64 0, .int .i64 0, .slice none 0 0] 24)).alloc (.cells #[.slice ad len cap, .int .i64 0, .bool false] 78)) := (((Below.refl _ _).alloc (Nat.le_refl _) _)).alloc (by simp) _
  have HBT : Hid (∀ X, Below w.heap.size w X → Bts X ad len cap l (w.heap.size + 1)) := hid (fun X hX => ⟨hp.later hX, hlc, hm, fun b off e hl hb => by
    obtain ⟨b', off', e', hs, -⟩ := hp.2.2.2.resolve_left hl
    simp only at e'
    rw [e] at e'
    cases e'
    omega⟩)
  have HN1 : Hid (∀ (X : World) (q : Nat) (bad : Bool), RdR X (w.heap.size + 1) q bad ad len cap → Below w.heap.size w X → q ≤ len → Calls Try.prog 37 #[.pointer (some ⟨w.heap.size + 1, 0, none⟩), .int .i64 1] X fun e w' => ∃ x q' bad', e = .returned (.int .i64 ((x : Nat) : Int)) ∧ Hid (Step l len q bad 1 x q' bad' ∧ RdR w' (w.heap.size + 1) q' bad' ad len cap ∧ Chg [w.heap.size + 1] X w')) := hid (fun X q bad hr hX hq => rnum_any (s := 1) hr (HBT.out X hX) (by omega) (by omega) hq)
  have HN6 : Hid (∀ (X : World) (q : Nat) (bad : Bool), RdR X (w.heap.size + 1) q bad ad len cap → Below w.heap.size w X → q ≤ len → Calls Try.prog 37 #[.pointer (some ⟨w.heap.size + 1, 0, none⟩), .int .i64 6] X fun e w' => ∃ x q' bad', e = .returned (.int .i64 ((x : Nat) : Int)) ∧ Hid (Step l len q bad 6 x q' bad' ∧ RdR w' (w.heap.size + 1) q' bad' ad len cap ∧ Chg [w.heap.size + 1] X w')) := hid (fun X q bad hr hX hq => rnum_any (s := 6) hr (HBT.out X hX) (by omega) (by omega) hq)
  have hR0 : RdR ((w.alloc (.cells #[.int .i64 0, .int .i64 0, .slice none 0 0] 24)).alloc (.cells #[.slice ad len cap, .int .i64 0, .bool false] 78)) (w.heap.size + 1) 0 false ad len cap := by have := heap_alloc_new' (w.alloc (.cells #[.int .i64 0, .int .i64 0, .slice none 0 0] 24)) (w.heap.size + 1) #[.slice ad len cap, .int .i64 0, .bool false] (T := 78) (by simp); exact this
  have HA1 := hid (HN1.out _ 0 false hR0 n1 (Nat.zero_le _))
  have HZ1 : Hid (Blk ((w.alloc (.cells #[.int .i64 0, .int .i64 0, .slice none 0 0] 24)).alloc (.cells #[.slice ad len cap, .int .i64 0, .bool false] 78)) w.heap.size #[.int .i64 0, .int .i64 0, .slice none 0 0] 24) := hid ((show Blk (w.alloc (.cells #[.int .i64 0, .int .i64 0, .slice none 0 0] 24)) w.heap.size #[.int .i64 0, .int .i64 0, .slice none 0 0] 24 from heap_alloc_new w _).later ((Below.refl _ _).alloc (Nat.le_refl _) _))
  have HS1 : Hid (Below w.heap.size w ((w.alloc (.cells #[.int .i64 0, .int .i64 0, .slice none 0 0] 24)).alloc (.cells #[.slice ad len cap, .int .i64 0, .bool false] 78)) ∧ ((w.alloc (.cells #[.int .i64 0, .int .i64 0, .slice none 0 0] 24)).alloc (.cells #[.slice ad len cap, .int .i64 0, .bool false] 78)).heap.size = w.heap.size + 2) := hid ⟨n1, by simp⟩
  have HH1 : Hid (∀ (X : World) (q : Nat) (bad : Bool) (x : Nat), RdR X (w.heap.size + 1) q bad ad len cap ∧ Chg [w.heap.size + 1] ((w.alloc (.cells #[.int .i64 0, .int .i64 0, .slice none 0 0] 24)).alloc (.cells #[.slice ad len cap, .int .i64 0, .bool false] 78)) X → RdR (X.alloc (.cells #[.int .i64 ((x : Nat) : Int), .int .i64 0, .slice none 0 0] 24)) (w.heap.size + 1) q bad ad len cap ∧ Below w.heap.size w (X.alloc (.cells #[.int .i64 ((x : Nat) : Int), .int .i64 0, .slice none 0 0] 24)) ∧ Blk (X.alloc (.cells #[.int .i64 ((x : Nat) : Int), .int .i64 0, .slice none 0 0] 24)) X.heap.size #[.int .i64 ((x : Nat) : Int), .int .i64 0, .slice none 0 0] 24 ∧ Blk (X.alloc (.cells #[.int .i64 ((x : Nat) : Int), .int .i64 0, .slice none 0 0] 24)) w.heap.size #[.int .i64 0, .int .i64 0, .slice none 0 0] 24 ∧ w.heap.size + 2 ≤ X.heap.size) := hid (fun X q bad x hX => by
    have nb := (Below.refl X.heap.size X).alloc (Nat.le_refl _) (.cells #[.int .i64 ((x : Nat) : Int), .int .i64 0, .slice none 0 0] 24)
    have bX : Below w.heap.size w X := HS1.out.1.trans (hX.2.below (fun k hk => by simp at hk; omega) HS1.out.1.size)
    exact ⟨Blk.later hX.1 nb, bX.trans (nb.mono bX.size), heap_alloc_new X _, (HZ1.out.chg hX.2 (by simp)).later nb, by have := hX.2.size; have := HS1.out.2; omega⟩)
  have H2OF : Hid (∀ (w1 w2 : World) (xo xt q1 q2 : Nat) (bd1 bd2 : Bool), (RdR (w1.alloc (.cells #[.int .i64 ((xo : Nat) : Int), .int .i64 0, .slice none 0 0] 24)) (w.heap.size + 1) q1 bd1 ad len cap ∧ Below w.heap.size w (w1.alloc (.cells #[.int .i64 ((xo : Nat) : Int), .int .i64 0, .slice none 0 0] 24)) ∧ Blk (w1.alloc (.cells #[.int .i64 ((xo : Nat) : Int), .int .i64 0, .slice none 0 0] 24)) w1.heap.size #[.int .i64 ((xo : Nat) : Int), .int .i64 0, .slice none 0 0] 24 ∧ Blk (w1.alloc (.cells #[.int .i64 ((xo : Nat) : Int), .int .i64 0, .slice none 0 0] 24)) w.heap.size #[.int .i64 0, .int .i64 0, .slice none 0 0] 24 ∧ w.heap.size + 2 ≤ w1.heap.size) → (RdR w2 (w.heap.size + 1) q2 bd2 ad len cap ∧ Chg [w.heap.size + 1] (w1.alloc (.cells #[.int .i64 ((xo : Nat) : Int), .int .i64 0, .slice none 0 0] 24)) w2) → Blk w2 w1.heap.size #[.int .i64 ((xo : Nat) : Int), .int .i64 0, .slice none 0 0] 24 ∧ RdR (w2.setCell ⟨w1.heap.size, 1, none⟩ (.int .i64 ((xt : Nat) : Int))) (w.heap.size + 1) q2 bd2 ad len cap ∧ Below w.heap.size w (w2.setCell ⟨w1.heap.size, 1, none⟩ (.int .i64 ((xt : Nat) : Int))) ∧ Blk (w2.setCell ⟨w1.heap.size, 1, none⟩ (.int .i64 ((xt : Nat) : Int))) w.heap.size #[.int .i64 0, .int .i64 0, .slice none 0 0] 24 ∧ w.heap.size + 2 ≤ w1.heap.size) := hid (fun w1 w2 xo xt q1 q2 bd1 bd2 h1 h2 => by
    obtain ⟨k1, k2, k3, k4, k5⟩ := h1
    have b2 : Below w.heap.size w w2 := k2.trans (h2.2.below (fun k hk => by simp at hk; omega) k2.size)
    exact ⟨k3.chg h2.2 (by simp; omega), Blk.other h2.1 (by omega) _ _, b2.setCell (p := ⟨w1.heap.size, 1, none⟩) (by show w.heap.size ≤ w1.heap.size; omega) _, (k4.chg h2.2 (by simp)).other (by omega) _ _, k5⟩)
  clear hp n1 hR0
  go_enter Try.func12, Try.ntmps12
  go_wp2_with first
    | (go_at_call 37; (with_reducible_and_instances (refine HA1.out.mono ?_)); rintro xx w1 ⟨xo, q1, bd1, rfl, h1⟩; have H1 := hid (HH1.out w1 q1 bd1 xo h1.out.2); have HT1 := hid h1.out.1; have HA2 := hid (HN6.out _ q1 bd1 H1.out.1 H1.out.2.1 (HT1.out.le (Nat.zero_le _))); clear h1)
    | (go_at_call 37; (with_reducible_and_instances (refine HA2.out.mono ?_)); rintro xx w2 ⟨xt, q2, bd2, rfl, h2⟩; have HT2 := hid h2.out.1; have H2 := hid (H2OF.out w1 w2 xo xt q1 q2 bd1 bd2 H1.out h2.out.2); have p2 : w2.cell? ⟨w1.heap.size, 1, none⟩ = some (.int .i64 0) := H2.out.1.cell 1; have g2 := H2.out.1.free 1; have HA3 := hid (HN1.out _ q2 bd2 H2.out.2.1 H2.out.2.2.1 (HT2.out.le (HT1.out.le (Nat.zero_le _)))); clear h2)
    | (go_at_call 37; (with_reducible_and_instances (refine HA3.out.mono ?_)); rintro xx w3 ⟨xn, q3, bd3, rfl, h3⟩; have HT3 := hid h3.out.1; have H3 := hid h3.out.2; clear h3)
  have HH := hid (chead HT1.out HT2.out HT3.out)
  have hxn : xn < 256 := HT3.out.one HLT.out
  have HQ3 : Hid (q3 ≤ len) := hid (HT3.out.le (HT2.out.le (HT1.out.le (Nat.zero_le _))))
  have HC3 : Hid (CI w (w.heap.size + 1) ad len cap w1.heap.size ((xo : Nat) : Int) ((xt : Nat) : Int) q3 bd3 [] (fun _ => ⟨none, 0, 0⟩) (.slice none 0 0) w3) := hid (by
    obtain ⟨k1, k2, k3, k4, k5⟩ := H2.out
    refine ⟨H3.out.1, k3.trans (H3.out.2.below (fun k hk => by simp at hk; omega) k3.size), k4.chg H3.out.2 (by simp), ?_, OwnP.nil _ _ _ _, fun i hi => absurd hi (Nat.not_lt_zero _)⟩
    exact Blk.chg (k1.set 1 (.int .i64 ((xt : Nat) : Int))) H3.out.2 (by simp; omega))
  have hb7 := H2.out.2.2.2.2
  clear HT1 HT2 HT3 H1 H2 H3 HA1 HA2 HA3 HH1 HZ1 HS1 p2 g2 H2OF
  generalize w1.heap.size = b7 at *
  generalize hxoI : ((xo : Nat) : Int) = xoI at *
  generalize hxtI : ((xt : Nat) : Int) = xtI at *
  go_loopw [9] (fun i wr => ∃ j : Nat, j ≤ xn ∧ i = .int .i64 j ∧ ∃ q bad L A v, Hid (CI w (w.heap.size + 1) ad len cap b7 xoI xtI q bad L A v wr) ∧ Hid (L.length = j ∧ q ≤ len ∧ (bad = false → q = posAt l j ∧ L = partsAt l j ∧ HD l xoI xtI xn) ∧ (bad = true → ¬ posAt l (cntAt l) ≤ len))) (fun i _ => xn - (intOf i).toNat)
  case atStart => exact ⟨0, by omega, rfl, _, _, _, _, _, HC3, hid ⟨rfl, HQ3.out, fun hb => ⟨(HH.out.1 hb).1, rfl, (HH.out.1 hb).2.2⟩, fun hb => by have := (HH.out.2 hb).1; have := posAt_ge l (cntAt l); omega⟩⟩
  case round =>
    obtain ⟨j, hj, rfl, q, bad, L, A, v, HC, HO⟩ := hrel
    clear HC3 HH HQ3
    have hLj := HO.out.1
    cases bad with
    | true =>
      have HE : Hid (decE l n = 22) := hid (decE_22 a1 (fun hq => HO.out.2.2.2 rfl (by rw [hq.1, HLN.out]; exact Nat.le_refl _)))
      have c2 : wr.cell? ⟨w.heap.size + 1, 2, none⟩ = some (.bool true) := HC.out.rd.cell 2
      have z0 : wr.cell? ⟨w.heap.size, 0, none⟩ = some (.int .i64 0) := HC.out.res.cell 0
      have z1 : wr.cell? ⟨w.heap.size, 1, none⟩ = some (.int .i64 0) := HC.out.res.cell 1
      have z2 : wr.cell? ⟨w.heap.size, 2, none⟩ = some (.slice none 0 0) := HC.out.res.cell 2
      have f0 := HC.out.res.free 0
      have f1 := HC.out.res.free 1
      have f2 := HC.out.res.free 2
      have HZR := HC.out.res
      have hbw := HC.out.below
      by_cases hjn : j < xn
      · have hlt : decide ((j : Int) < (xn : Int)) = true := by simp; omega
        go_wp2_with fail
        have m0 := ((HZR.set 0 (.int .i64 0)).set 1 (.int .i64 0)).set 2 (.slice none 0 0)
        have s0 : (((wr.setCell ⟨w.heap.size, 0, none⟩ (.int .i64 0)).setCell ⟨w.heap.size, 1, none⟩ (.int .i64 0)).setCell ⟨w.heap.size, 2, none⟩ (.slice none 0 0)).cell? ⟨w.heap.size, 0, none⟩ = some (.int .i64 0) := m0.cell 0
        have s1 : (((wr.setCell ⟨w.heap.size, 0, none⟩ (.int .i64 0)).setCell ⟨w.heap.size, 1, none⟩ (.int .i64 0)).setCell ⟨w.heap.size, 2, none⟩ (.slice none 0 0)).cell? ⟨w.heap.size, 1, none⟩ = some (.int .i64 0) := m0.cell 1
        have s2 : (((wr.setCell ⟨w.heap.size, 0, none⟩ (.int .i64 0)).setCell ⟨w.heap.size, 1, none⟩ (.int .i64 0)).setCell ⟨w.heap.size, 2, none⟩ (.slice none 0 0)).cell? ⟨w.heap.size, 2, none⟩ = some (.slice none 0 0) := m0.cell 2
        have hcg : Chg [w.heap.size] wr (((wr.setCell ⟨w.heap.size, 0, none⟩ (.int .i64 0)).setCell ⟨w.heap.size, 1, none⟩ (.int .i64 0)).setCell ⟨w.heap.size, 2, none⟩ (.slice none 0 0)) := (((Chg.refl _ wr).set (Or.inl (by simp)) _ _).set (Or.inl (by simp)) _ _).set (Or.inl (by simp)) _ _
        refine bodyPost_ret (v := .tuple #[.agg #[.int .i64 0, .int .i64 0, .slice none 0 0], .int .i64 22]) (by simp [results, Try.results12, go_sem, s0, s1, s2]) rfl ⟨none, 0, 0, by rw [decC_no (by rw [HE.out]; decide), HE.out], hid (by rw [decC_no (by rw [HE.out]; decide)]; exact CAns.none _ _), hbw.trans (hcg.below (fun k hk => by simp at hk; omega) hbw.size)⟩
      · have hlt : decide ((j : Int) < (xn : Int)) = false := by simp; omega
        go_wp2_with fail
        have m0 := ((HZR.set 0 (.int .i64 0)).set 1 (.int .i64 0)).set 2 (.slice none 0 0)
        have s0 : (((wr.setCell ⟨w.heap.size, 0, none⟩ (.int .i64 0)).setCell ⟨w.heap.size, 1, none⟩ (.int .i64 0)).setCell ⟨w.heap.size, 2, none⟩ (.slice none 0 0)).cell? ⟨w.heap.size, 0, none⟩ = some (.int .i64 0) := m0.cell 0
        have s1 : (((wr.setCell ⟨w.heap.size, 0, none⟩ (.int .i64 0)).setCell ⟨w.heap.size, 1, none⟩ (.int .i64 0)).setCell ⟨w.heap.size, 2, none⟩ (.slice none 0 0)).cell? ⟨w.heap.size, 1, none⟩ = some (.int .i64 0) := m0.cell 1
        have s2 : (((wr.setCell ⟨w.heap.size, 0, none⟩ (.int .i64 0)).setCell ⟨w.heap.size, 1, none⟩ (.int .i64 0)).setCell ⟨w.heap.size, 2, none⟩ (.slice none 0 0)).cell? ⟨w.heap.size, 2, none⟩ = some (.slice none 0 0) := m0.cell 2
        have hcg : Chg [w.heap.size] wr (((wr.setCell ⟨w.heap.size, 0, none⟩ (.int .i64 0)).setCell ⟨w.heap.size, 1, none⟩ (.int .i64 0)).setCell ⟨w.heap.size, 2, none⟩ (.slice none 0 0)) := (((Chg.refl _ wr).set (Or.inl (by simp)) _ _).set (Or.inl (by simp)) _ _).set (Or.inl (by simp)) _ _
        refine bodyPost_ret (v := .tuple #[.agg #[.int .i64 0, .int .i64 0, .slice none 0 0], .int .i64 22]) (by simp [results, Try.results12, go_sem, s0, s1, s2]) rfl ⟨none, 0, 0, by rw [decC_no (by rw [HE.out]; decide), HE.out], hid (by rw [decC_no (by rw [HE.out]; decide)]; exact CAns.none _ _), hbw.trans (hcg.below (fun k hk => by simp at hk; omega) hbw.size)⟩
    | false =>
      have c2 : wr.cell? ⟨w.heap.size + 1, 2, none⟩ = some (.bool false) := HC.out.rd.cell 2
      by_cases hjn : j < xn
      · have hlt : decide ((j : Int) < (xn : Int)) = true := by simp; omega
        have HPG := hid (HO.out.2.2.1 rfl)
        obtain ⟨w0, rfl⟩ : ∃ w0, w0 = wr := ⟨_, rfl⟩
        obtain ⟨p, rfl⟩ : ∃ p, p = q := ⟨_, rfl⟩
        have hpl := HO.out.2.1
        have HA1 := hid (HN6.out w0 p false HC.out.rd HC.out.below hpl)
        have hRw : w.heap.size + 1 < w0.heap.size := Blk.lt HC.out.rd
        have HG1 : Hid (∀ (X : World) (q' : Nat) (bad' : Bool) (x : Nat), RdR X (w.heap.size + 1) q' bad' ad len cap ∧ Chg [w.heap.size + 1] w0 X → RdR (X.alloc (.cells #[.int .i64 ((x : Nat) : Int), .int .i64 0, .slice none 0 0] 65)) (w.heap.size + 1) q' bad' ad len cap ∧ Below w.heap.size w (X.alloc (.cells #[.int .i64 ((x : Nat) : Int), .int .i64 0, .slice none 0 0] 65)) ∧ Chg [w.heap.size + 1] w0 (X.alloc (.cells #[.int .i64 ((x : Nat) : Int), .int .i64 0, .slice none 0 0] 65)) ∧ Blk (X.alloc (.cells #[.int .i64 ((x : Nat) : Int), .int .i64 0, .slice none 0 0] 65)) X.heap.size #[.int .i64 ((x : Nat) : Int), .int .i64 0, .slice none 0 0] 65 ∧ w0.heap.size ≤ X.heap.size) := hid (fun X q' bad' x hX => by
          have nb := (Below.refl X.heap.size X).alloc (Nat.le_refl _) (.cells #[.int .i64 ((x : Nat) : Int), .int .i64 0, .slice none 0 0] 65)
          have bX : Below w.heap.size w X := HC.out.below.trans (hX.2.below (fun k hk => by simp at hk; omega) HC.out.below.size)
          exact ⟨Blk.later hX.1 nb, bX.trans (nb.mono bX.size), hX.2.trans (Chg.of nb) (fun k hk => Or.inl hk), heap_alloc_new X _, hX.2.size⟩)
        have G2OF : Hid (∀ (w1 w2 : World) (x xt q1 q2 : Nat) (bd1 bd2 : Bool), (RdR (w1.alloc (.cells #[.int .i64 ((x : Nat) : Int), .int .i64 0, .slice none 0 0] 65)) (w.heap.size + 1) q1 bd1 ad len cap ∧ Below w.heap.size w (w1.alloc (.cells #[.int .i64 ((x : Nat) : Int), .int .i64 0, .slice none 0 0] 65)) ∧ Chg [w.heap.size + 1] w0 (w1.alloc (.cells #[.int .i64 ((x : Nat) : Int), .int .i64 0, .slice none 0 0] 65)) ∧ Blk (w1.alloc (.cells #[.int .i64 ((x : Nat) : Int), .int .i64 0, .slice none 0 0] 65)) w1.heap.size #[.int .i64 ((x : Nat) : Int), .int .i64 0, .slice none 0 0] 65 ∧ w0.heap.size ≤ w1.heap.size) → (RdR w2 (w.heap.size + 1) q2 bd2 ad len cap ∧ Chg [w.heap.size + 1] (w1.alloc (.cells #[.int .i64 ((x : Nat) : Int), .int .i64 0, .slice none 0 0] 65)) w2) → Blk w2 w1.heap.size #[.int .i64 ((x : Nat) : Int), .int .i64 0, .slice none 0 0] 65 ∧ RdR (w2.setCell ⟨w1.heap.size, 1, none⟩ (.int .i64 ((xt : Nat) : Int))) (w.heap.size + 1) q2 bd2 ad len cap ∧ Below w.heap.size w (w2.setCell ⟨w1.heap.size, 1, none⟩ (.int .i64 ((xt : Nat) : Int))) ∧ Chg [w.heap.size + 1] w0 (w2.setCell ⟨w1.heap.size, 1, none⟩ (.int .i64 ((xt : Nat) : Int))) ∧ w0.heap.size ≤ w1.heap.size) := hid (fun w1 w2 x xt q1 q2 bd1 bd2 h1 h2 => by
          obtain ⟨k1, k2, k3, k4, k5⟩ := h1
          have b2 : Below w.heap.size w w2 := k2.trans (h2.2.below (fun k hk => by simp at hk; omega) k2.size)
          exact ⟨k4.chg h2.2 (by simp; omega), Blk.other h2.1 (by omega) _ _, b2.setCell (p := ⟨w1.heap.size, 1, none⟩) (by show w.heap.size ≤ w1.heap.size; omega) _, (k3.trans h2.2 (fun k hk => Or.inl hk)).trans ((Chg.refl [w1.heap.size] w2).set (Or.inl (by simp)) _ _) (fun k hk => by simp at hk; subst hk; exact Or.inr k5), k5⟩)
        go_wp2_with first
          | (go_at_call 37; (with_reducible_and_instances (refine HA1.out.mono ?_)); rintro xx w1 ⟨x1, q1, bd1, rfl, h1⟩; have H1 := hid (HG1.out w1 q1 bd1 x1 h1.out.2); have HT1 := hid h1.out.1; have HA2 := hid (HN6.out _ q1 bd1 H1.out.1 H1.out.2.1 (HT1.out.le hpl)); clear h1)
          | (go_at_call 37; (with_reducible_and_instances (refine HA2.out.mono ?_)); rintro xx w2 ⟨x2, q2, bd2, rfl, h2⟩; have HT2 := hid h2.out.1; have H2 := hid (G2OF.out w1 w2 x1 x2 q1 q2 bd1 bd2 H1.out h2.out.2); have p2 : w2.cell? ⟨w1.heap.size, 1, none⟩ = some (.int .i64 0) := H2.out.1.cell 1; have g2 := H2.out.1.free 1; have HA3 := hid (HN1.out _ q2 bd2 H2.out.2.1 H2.out.2.2.1 (HT2.out.le (HT1.out.le hpl))); clear h2)
          | (go_at_call 37; (with_reducible_and_instances (refine HA3.out.mono ?_)); rintro xx w3 ⟨x3, q3, bd3, rfl, h3⟩; have HT3 := hid h3.out.1; have H3 := hid h3.out.2; clear h3)
        have hx3 : x3 < 256 := HT3.out.one HLT.out
        have HQ3 : Hid (q3 ≤ len) := hid (HT3.out.le (HT2.out.le (HT1.out.le hpl)))
        have HP3 : Hid (PI w0 (w.heap.size + 1) ad len cap w1.heap.size ((x1 : Nat) : Int) ((x2 : Nat) : Int) q3 bd3 0 [] (.slice none 0 0) w3) := hid (by
          obtain ⟨k1, k2, k3, k4, k5⟩ := H2.out
          exact ⟨H3.out.1, k4.trans H3.out.2 (fun k hk => Or.inl hk), Blk.chg (k1.set 1 (.int .i64 ((x2 : Nat) : Int))) H3.out.2 (by simp; omega), World.ownsRow_nil _ _ _ _⟩)
        have hb10 := H2.out.2.2.2.2
        have HHB : Hid (bd3 = true → ¬ partEnd l p ≤ len ∧ x3 = 0) := hid (fun hb => by have h3 := HT3.out; rw [hb] at h3; exact head_bad HT1.out HT2.out h3)
        have HHG : Hid (bd3 = false → x1 = nAt l p 6 ∧ x2 = nAt l (p + 6) 6 ∧ x3 = nAt l (p + 12) 1 ∧ q3 = p + 13 ∧ p + 13 ≤ len) := hid (fun hb => by have h3 := HT3.out; rw [hb] at h3; exact head_good HT1.out HT2.out h3)
        have HXR : Hid (x1 < 281474976710656 ∧ x2 < 281474976710656) := hid ⟨HT1.out.lt HLT.out (by omega), HT2.out.lt HLT.out (by omega)⟩
        clear HT1 HT2 HT3 H1 H2 H3 HA1 HA2 HA3 HG1 G2OF p2 g2
        generalize w1.heap.size = b10 at *
        have HSL : Hid (∀ (W : World) (v2 : Value) (k : Nat) (L2 : List Int), W.ownsRow w0.heap.size 3 1 v2 k (intsV L2) → L2.length = k → (∀ y ∈ L2, 0 ≤ y ∧ y < 281474976710656) → ∃ s : Sl, v2 = .slice s.ad s.m s.c ∧ Hid (NewI W w0.heap.size L2 s)) := hid (fun W v2 k L2 ho hl hr => by
          have hoi : OwnI W w0.heap.size v2 L2 := by unfold OwnI; rw [hl]; exact ho
          obtain ⟨s, hv, -, hi, hn, hnew⟩ := hoi.form (fun y hy => by have := hr y hy; omega)
          exact ⟨s, hv, hid ⟨hi, hn, fun _ => hnew⟩⟩)
        have HNXT : Hid (∀ (q : Nat) (bad : Bool) (k : Nat) (L2 : List Int), InR l len p q3 bd3 q bad k L2 → (bad = false → k = x3) → (L ++ [(⟨((x1 : Nat) : Int), ((x2 : Nat) : Int), L2⟩ : Pt)]).length = j + 1 ∧ q ≤ len ∧ (bad = false → q = posAt l (j + 1) ∧ L ++ [(⟨((x1 : Nat) : Int), ((x2 : Nat) : Int), L2⟩ : Pt)] = partsAt l (j + 1) ∧ HD l xoI xtI xn) ∧ (bad = true → ¬ posAt l (cntAt l) ≤ len)) := hid (fun q bad k L2 hI hk => by
          obtain ⟨e1, e2, e3, e4, -⟩ := hI
          have hg := HPG.out
          refine ⟨by simp; omega, e2, fun hb => ?_, fun hb => ?_⟩
          · obtain ⟨f1, f2, f3⟩ := e3 hb
            obtain ⟨y1, y2, y3, y4, y5⟩ := HHG.out f1
            have hkx := hk hb
            refine ⟨?_, ?_, hg.2.2⟩
            · show q = partEnd l (posAt l j)
              rw [← hg.1]
              unfold partEnd
              omega
            · rw [partsAt_succ, ← hg.1, hg.2.1, f3, y4, hkx, y1, y2, y3]
              rfl
          · have := e4 hb
            rw [hg.1] at this
            have hm := posAt_mono l (show j + 1 ≤ cntAt l by have := hg.2.2.2.2; omega)
            have h2 : posAt l (j + 1) = partEnd l (posAt l j) := rfl
            omega)
        go_loopw [12] (fun i wr => ∃ k : Nat, k ≤ x3 ∧ i = .int .i64 k ∧ ∃ q bad L2 v2, Hid (PI w0 (w.heap.size + 1) ad len cap b10 ((x1 : Nat) : Int) ((x2 : Nat) : Int) q bad k L2 v2 wr) ∧ Hid (InR l len p q3 bd3 q bad k L2)) (fun i _ => x3 - (intOf i).toNat)
        case atStart => exact ⟨0, by omega, rfl, _, _, _, _, HP3, hid ⟨rfl, HQ3.out, fun hb => ⟨hb, by omega, rfl⟩, fun hb => (HHB.out hb).1, fun y hy => by cases hy⟩⟩
        case round =>
          obtain ⟨k, hk, rfl, q, bad, L2, v2, HP, HI⟩ := hrel
          clear HP3 HQ3
          cases bad with
          | true =>
            have c3 : wr.cell? ⟨w.heap.size + 1, 2, none⟩ = some (.bool true) := HP.out.rd.cell 2
            by_cases hkx : k < x3
            · have hlt2 : decide ((k : Int) < (x3 : Int)) = true := by simp; omega
              have HCW := hid (HC.out.num (by omega) (by omega) HP.out.chg HP.out.rd)
              obtain ⟨s, rfl, HNS⟩ := HSL.out wr v2 k L2 HP.out.own HI.out.1 HI.out.2.2.2.2
              have u0 : wr.cell? ⟨b10, 0, none⟩ = some (.int .i64 ((x1 : Nat) : Int)) := HP.out.box.cell 0
              have u1 : wr.cell? ⟨b10, 1, none⟩ = some (.int .i64 ((x2 : Nat) : Int)) := HP.out.box.cell 1
              have u2 : wr.cell? ⟨b10, 2, none⟩ = some (.slice s.ad s.m s.c) := HP.out.box.cell 2
              have u3 : wr.cell? ⟨b7, 2, none⟩ = some v := HCW.out.box.cell 2
              have HOP : Hid (OwnP 65 (wr.alloc (.cells #[.int .i64 ((x1 : Nat) : Int), .int .i64 ((x2 : Nat) : Int), .slice s.ad s.m s.c] 65)) (w.heap.size + 1) v L A) := hid (HCW.out.own.later ((Below.refl _ _).alloc (Nat.le_refl _) _))
              have HLB : Hid (Blk (wr.alloc (.cells #[.int .i64 ((x1 : Nat) : Int), .int .i64 ((x2 : Nat) : Int), .slice s.ad s.m s.c] 65)) wr.heap.size #[.int .i64 ((x1 : Nat) : Int), .int .i64 ((x2 : Nat) : Int), .slice s.ad s.m s.c] 65) := hid (heap_alloc_new wr _)
              have HSZ : Hid (w.heap.size + 1 ≤ (wr.alloc (.cells #[.int .i64 ((x1 : Nat) : Int), .int .i64 ((x2 : Nat) : Int), .slice s.ad s.m s.c] 65)).heap.size) := hid (by have := HP.out.chg.size; simp; omega)
              have HRN : Hid (∀ (v' : Value) (w6 : World), OwnP 65 w6 (w.heap.size + 1) v' (L ++ [(⟨((x1 : Nat) : Int), ((x2 : Nat) : Int), L2⟩ : Pt)]) (fun i => if i < L.length then A i else s) → (wr.alloc (.cells #[.int .i64 ((x1 : Nat) : Int), .int .i64 ((x2 : Nat) : Int), .slice s.ad s.m s.c] 65)).grownBy w6 v.ownBlock → w6.cell? ⟨b7, 2, none⟩ = some v ∧ w6.frozen? ⟨b7, 2, none⟩ = false ∧ CI w (w.heap.size + 1) ad len cap b7 xoI xtI q true (L ++ [(⟨((x1 : Nat) : Int), ((x2 : Nat) : Int), L2⟩ : Pt)]) (fun i => if i < L.length then A i else s) v' (w6.setCell ⟨b7, 2, none⟩ v')) := hid (fun v' w6 r1 r2 => HCW.out.part (by omega) (by omega) (by omega) (HNS.out.down (by omega)) _ r1 r2)
              have HNX : Hid ((L ++ [(⟨((x1 : Nat) : Int), ((x2 : Nat) : Int), L2⟩ : Pt)]).length = j + 1 ∧ q ≤ len ∧ (true = false → q = posAt l (j + 1) ∧ L ++ [(⟨((x1 : Nat) : Int), ((x2 : Nat) : Int), L2⟩ : Pt)] = partsAt l (j + 1) ∧ HD l xoI xtI xn) ∧ (true = true → ¬ posAt l (cntAt l) ≤ len)) := hid (HNXT.out q true k L2 HI.out (fun hf => by cases hf))
              clear HSL HNXT
              go_wp2_with (at_builtin; refine app_part ptypeR rfl _ _ rfl (w.heap.size + 1) v L A rfl HOP.out wr.heap.size (⟨((x1 : Nat) : Int), ((x2 : Nat) : Int), L2⟩ : Pt) s rfl HLB.out (by have := hLj; omega) HSZ.out ?_; intro v' w6 r1 r2 r3; obtain ⟨adv, nv, cv, rfl⟩ := owns_slice' r1; have HRR := hid (HRN.out _ w6 r1 r2); obtain ⟨y2, fy, -⟩ := HRR.out; clear r1 r2 r3)
              exact ⟨⟨j + 1, by omega, by go_num, q, true, _, _, _, hid HRR.out.2.2, HNX⟩, by simp [intOf]; omega⟩
            · have hlt2 : decide ((k : Int) < (x3 : Int)) = false := by simp; omega
              have HCW := hid (HC.out.num (by omega) (by omega) HP.out.chg HP.out.rd)
              obtain ⟨s, rfl, HNS⟩ := HSL.out wr v2 k L2 HP.out.own HI.out.1 HI.out.2.2.2.2
              have u0 : wr.cell? ⟨b10, 0, none⟩ = some (.int .i64 ((x1 : Nat) : Int)) := HP.out.box.cell 0
              have u1 : wr.cell? ⟨b10, 1, none⟩ = some (.int .i64 ((x2 : Nat) : Int)) := HP.out.box.cell 1
              have u2 : wr.cell? ⟨b10, 2, none⟩ = some (.slice s.ad s.m s.c) := HP.out.box.cell 2
              have u3 : wr.cell? ⟨b7, 2, none⟩ = some v := HCW.out.box.cell 2
              have HOP : Hid (OwnP 65 (wr.alloc (.cells #[.int .i64 ((x1 : Nat) : Int), .int .i64 ((x2 : Nat) : Int), .slice s.ad s.m s.c] 65)) (w.heap.size + 1) v L A) := hid (HCW.out.own.later ((Below.refl _ _).alloc (Nat.le_refl _) _))
              have HLB : Hid (Blk (wr.alloc (.cells #[.int .i64 ((x1 : Nat) : Int), .int .i64 ((x2 : Nat) : Int), .slice s.ad s.m s.c] 65)) wr.heap.size #[.int .i64 ((x1 : Nat) : Int), .int .i64 ((x2 : Nat) : Int), .slice s.ad s.m s.c] 65) := hid (heap_alloc_new wr _)
              have HSZ : Hid (w.heap.size + 1 ≤ (wr.alloc (.cells #[.int .i64 ((x1 : Nat) : Int), .int .i64 ((x2 : Nat) : Int), .slice s.ad s.m s.c] 65)).heap.size) := hid (by have := HP.out.chg.size; simp; omega)
              have HRN : Hid (∀ (v' : Value) (w6 : World), OwnP 65 w6 (w.heap.size + 1) v' (L ++ [(⟨((x1 : Nat) : Int), ((x2 : Nat) : Int), L2⟩ : Pt)]) (fun i => if i < L.length then A i else s) → (wr.alloc (.cells #[.int .i64 ((x1 : Nat) : Int), .int .i64 ((x2 : Nat) : Int), .slice s.ad s.m s.c] 65)).grownBy w6 v.ownBlock → w6.cell? ⟨b7, 2, none⟩ = some v ∧ w6.frozen? ⟨b7, 2, none⟩ = false ∧ CI w (w.heap.size + 1) ad len cap b7 xoI xtI q true (L ++ [(⟨((x1 : Nat) : Int), ((x2 : Nat) : Int), L2⟩ : Pt)]) (fun i => if i < L.length then A i else s) v' (w6.setCell ⟨b7, 2, none⟩ v')) := hid (fun v' w6 r1 r2 => HCW.out.part (by omega) (by omega) (by omega) (HNS.out.down (by omega)) _ r1 r2)
              have HNX : Hid ((L ++ [(⟨((x1 : Nat) : Int), ((x2 : Nat) : Int), L2⟩ : Pt)]).length = j + 1 ∧ q ≤ len ∧ (true = false → q = posAt l (j + 1) ∧ L ++ [(⟨((x1 : Nat) : Int), ((x2 : Nat) : Int), L2⟩ : Pt)] = partsAt l (j + 1) ∧ HD l xoI xtI xn) ∧ (true = true → ¬ posAt l (cntAt l) ≤ len)) := hid (HNXT.out q true k L2 HI.out (fun hf => by cases hf))
              clear HSL HNXT
              go_wp2_with (at_builtin; refine app_part ptypeR rfl _ _ rfl (w.heap.size + 1) v L A rfl HOP.out wr.heap.size (⟨((x1 : Nat) : Int), ((x2 : Nat) : Int), L2⟩ : Pt) s rfl HLB.out (by have := hLj; omega) HSZ.out ?_; intro v' w6 r1 r2 r3; obtain ⟨adv, nv, cv, rfl⟩ := owns_slice' r1; have HRR := hid (HRN.out _ w6 r1 r2); obtain ⟨y2, fy, -⟩ := HRR.out; clear r1 r2 r3)
              exact ⟨⟨j + 1, by omega, by go_num, q, true, _, _, _, hid HRR.out.2.2, HNX⟩, by simp [intOf]; omega⟩
          | false =>
            have c3 : wr.cell? ⟨w.heap.size + 1, 2, none⟩ = some (.bool false) := HP.out.rd.cell 2
            by_cases hkl : k < x3
            · have hlt2 : decide ((k : Int) < (x3 : Int)) = true := by simp; omega
              have HNU : Hid (∀ X, Below wr.heap.size wr X → Calls Try.prog 37 #[.pointer (some ⟨w.heap.size + 1, 0, none⟩), .int .i64 1] X fun e w' => ∃ x q' bad', e = .returned (.int .i64 ((x : Nat) : Int)) ∧ Hid (Step l len q false 1 x q' bad' ∧ RdR w' (w.heap.size + 1) q' bad' ad len cap ∧ Chg [w.heap.size + 1] wr w')) := hid (fun X hX => (HN1.out X q false (Blk.later HP.out.rd hX) ((HC.out.below.trans (HP.out.chg.below (fun k hk => by simp at hk; omega) HC.out.below.size)).trans (hX.mono (by have := HC.out.below.size; have := HP.out.chg.size; omega))) HI.out.2.1).mono (fun e w' h => by
                obtain ⟨x, q', bad', he, hh⟩ := h
                exact ⟨x, q', bad', he, hid ⟨hh.out.1, hh.out.2.1, (Chg.of hX).trans hh.out.2.2 (fun k hk => Or.inl hk)⟩⟩))
              have HC5 : Hid (∀ (w5 : World) (x q5 : Nat) (b5 : Bool), (Step l len q false 1 x q5 b5 ∧ RdR w5 (w.heap.size + 1) q5 b5 ad len cap ∧ Chg [w.heap.size + 1] wr w5) → (w0.heap.size ≤ (w5.alloc (.cells #[.int .i64 ((x : Nat) : Int)] 3)).heap.size ∧ (-9223372036854775808 ≤ ((x : Nat) : Int) ∧ ((x : Nat) : Int) ≤ 9223372036854775807)) ∧ (PI w0 (w.heap.size + 1) ad len cap b10 ((x1 : Nat) : Int) ((x2 : Nat) : Int) q5 b5 k L2 v2 w5 ∧ Step l len q false 1 x q5 b5) ∧ (w5.alloc (.cells #[.int .i64 ((x : Nat) : Int)] 3)).ownsRow w0.heap.size 3 1 v2 k (intsV L2)) := hid (fun w5 x q5 b5 h5 => by
                have hp5 := HP.out.num (by omega) h5.2.2 h5.2.1
                have hx := h5.1.one HLT.out
                exact ⟨⟨by have := hp5.chg.size; simp; omega, by omega⟩, ⟨hp5, h5.1⟩, own_kept hp5.own ((Below.refl _ _).alloc (Nat.le_refl _) _)⟩)
              have HSP : Hid (∀ (w5 w6 : World) (x q5 : Nat) (b5 : Bool) (v' : Value), (PI w0 (w.heap.size + 1) ad len cap b10 ((x1 : Nat) : Int) ((x2 : Nat) : Int) q5 b5 k L2 v2 w5 ∧ Step l len q false 1 x q5 b5) → w6.ownsRow w0.heap.size 3 1 v' (k + 1) (intsV (L2 ++ [((x : Nat) : Int)])) → (w5.alloc (.cells #[.int .i64 ((x : Nat) : Int)] 3)).grownBy w6 v2.ownBlock → w6.cell? ⟨b10, 2, none⟩ = some v2 ∧ w6.frozen? ⟨b10, 2, none⟩ = false ∧ PI w0 (w.heap.size + 1) ad len cap b10 ((x1 : Nat) : Int) ((x2 : Nat) : Int) q5 b5 (k + 1) (L2 ++ [((x : Nat) : Int)]) v' (w6.setCell ⟨b10, 2, none⟩ v') ∧ InR l len p q3 bd3 q5 b5 (k + 1) (L2 ++ [((x : Nat) : Int)])) := hid (fun w5 w6 x q5 b5 v' h5 r1 r2 => by
                obtain ⟨z1, z2, z3⟩ := h5.1.node (by omega) (by omega) _ r1 r2
                exact ⟨z1, z2, z3, HI.out.step h5.2 HLT.out hkl (fun hb => ⟨(HHG.out hb).2.2.2.1, (HHG.out hb).2.2.1⟩)⟩)
              go_wp2_with fail
              refine wp_region_held_drew (S := fun W => True) (by kernel_rfl) (trivial) (fun hHeld => ?_)
              refine wpAnyH_take (i := 0) (oi := { dst := some 60, op := Op.fieldAddr 65 (Operand.tmp 10) 1, type := 0, pos := "ref.go:122", after := #[], guard := none }) (v := ?_) rfl (by kernel_rfl) (by kernel_rfl) (by kernel_rfl) (fun _ _ _ h => h) (Or.inl ⟨by rfl, ?_⟩) hHeld ?_
              rotate_left
              · intro w hSw; (try dsimp only at hSw); go_simp; try with_reducible rfl
              try simp only [Act.put, List.setIfInBounds_toArray, List.set_cons_zero, List.set_cons_succ]
              refine wpAnyH_take (i := 1) (oi := { dst := some 61, op := Op.fieldAddr 49 (Operand.tmp 60) 1, type := 0, pos := "ref.go:122", after := #[{ on := 0, ground := Ground.data }], guard := none }) (v := ?_) rfl (by kernel_rfl) (by kernel_rfl) (by kernel_rfl) (fun _ _ _ h => h) (Or.inl ⟨by rfl, ?_⟩) hHeld ?_
              rotate_left
              · intro w hSw; (try dsimp only at hSw); go_simp; try with_reducible rfl
              try simp only [Act.put, List.setIfInBounds_toArray, List.set_cons_zero, List.set_cons_succ]
              refine wpAnyH_take (i := 3) (oi := { dst := some 63, op := Op.move (Operand.tmp 6), type := 76, pos := "ref.go:122", after := #[], guard := none }) (v := ?_) rfl (by kernel_rfl) (by kernel_rfl) (by kernel_rfl) (fun _ _ _ h => h) (Or.inl ⟨by rfl, ?_⟩) hHeld ?_
              rotate_left
              · intro w hSw; (try dsimp only at hSw); go_simp; try with_reducible rfl
              try simp only [Act.put, List.setIfInBounds_toArray, List.set_cons_zero, List.set_cons_succ]
              refine wpAnyH_ready (rs := [2, 4]) (by kernel_rfl) (by simp) ?_
              refine AllReadyH.cons rfl (fun K hK => ?_) (AllReadyH.cons rfl (fun K hK => ?_) (AllReadyH.nil))
              · skip
                have k2 : wr.cell? ⟨b10, 2, none⟩ = some v2 := HP.out.box.cell 2
                go_simp
                refine hK.out _ _ (trivial) (fun hHeld => ?_)
                clear hK K
                try simp only [Act.put, List.setIfInBounds_toArray, List.set_cons_zero, List.set_cons_succ]
                refine wpAnyH_ready (rs := [4]) (by kernel_rfl) (by simp) ?_
                refine AllReadyH.cons rfl (fun K hK => ?_) (AllReadyH.nil)
                go_simp
                go_wp2_with (go_at_call 37; refine (HNU.out _ ((Below.refl _ wr).drew)).mono ?_; rintro xx w5 ⟨x, q5, b5, rfl, hh⟩; have H5 := hid (HC5.out _ x q5 b5 hh.out); clear hh)
                refine hK.out _ _ (trivial) (fun hHeld => ?_)
                clear hK K
                try simp only [Act.put, List.setIfInBounds_toArray, List.set_cons_zero, List.set_cons_succ]
                refine wpAnyH_ready (rs := [5]) (by kernel_rfl) (by simp) ?_
                refine AllReadyH.cons rfl (fun K hK => ?_) (AllReadyH.nil)
                go_simp
                refine hK.out _ _ (trivial) (fun hHeld => ?_)
                clear hK K
                try simp only [Act.put, List.setIfInBounds_toArray, List.set_cons_zero, List.set_cons_succ]
                refine wpAnyH_ready (rs := [6]) (by kernel_rfl) (by simp) ?_
                refine AllReadyH.cons rfl (fun K hK => ?_) (AllReadyH.nil)
                refine step_app_ints rfl _ _ rfl w0.heap.size k v2 L2 rfl H5.out.2.2 (some ⟨w5.heap.size, 0, none⟩) 1 1 [((x : Nat) : Int)] rfl (ints_one w5 _ H5.out.1.2) (fun e => by cases e) (by omega) H5.out.1.1 ?_
                intro v' w6 r1 r2
                obtain ⟨adv, nv, cv, rfl⟩ := owns_slice' r1
                have HST := hid (HSP.out w5 w6 x q5 b5 _ H5.out.2.1 r1 r2)
                obtain ⟨y2, fy, -⟩ := HST.out
                clear r1 r2
                refine hK.out _ _ (trivial) (fun hHeld => ?_)
                clear hK K
                refine wpAnyH_take (i := 7) (oi := { dst := some 67, op := Op.fieldAddr 65 (Operand.tmp 10) 1, type := 0, pos := "ref.go:122", after := #[{ on := 0, ground := Ground.phase }, { on := 1, ground := Ground.phase }, { on := 2, ground := Ground.phase }, { on := 3, ground := Ground.phase }, { on := 4, ground := Ground.phase }, { on := 5, ground := Ground.phase }, { on := 6, ground := Ground.phase }], guard := none }) (v := ?_) rfl (by kernel_rfl) (by kernel_rfl) (by kernel_rfl) (fun _ _ _ h => h) (Or.inl ⟨by rfl, ?_⟩) hHeld ?_
                rotate_left
                · intro w hSw; (try dsimp only at hSw); go_simp; try with_reducible rfl
                refine wpAnyH_take (i := 8) (oi := { dst := some 68, op := Op.fieldAddr 49 (Operand.tmp 67) 1, type := 0, pos := "ref.go:122", after := #[{ on := 7, ground := Ground.data }, { on := 0, ground := Ground.phase }, { on := 1, ground := Ground.phase }, { on := 2, ground := Ground.phase }, { on := 3, ground := Ground.phase }, { on := 4, ground := Ground.phase }, { on := 5, ground := Ground.phase }, { on := 6, ground := Ground.phase }], guard := none }) (v := ?_) rfl (by kernel_rfl) (by kernel_rfl) (by kernel_rfl) (fun _ _ _ h => h) (Or.inl ⟨by rfl, ?_⟩) hHeld ?_
                rotate_left
                · intro w hSw; (try dsimp only at hSw); go_simp; try with_reducible rfl
                refine wpAnyH_ready (rs := [9]) (by kernel_rfl) (by simp) ?_
                refine AllReadyH.cons rfl (fun K hK => ?_) (AllReadyH.nil)
                go_simp
                refine hK.out _ _ (trivial) (fun hHeld => ?_)
                clear hK K
                refine wpAnyH_done (by kernel_rfl) ?_ _
                go_wp2_with fail
                exact ⟨⟨k + 1, by omega, by go_num, _, _, _, _, hid HST.out.2.2.1, hid HST.out.2.2.2⟩, by simp [intOf]; omega⟩
              · skip
                go_simp
                go_wp2_with (go_at_call 37; refine (HNU.out _ ((Below.refl _ wr).drew)).mono ?_; rintro xx w5 ⟨x, q5, b5, rfl, hh⟩; have H5 := hid (HC5.out _ x q5 b5 hh.out); clear hh)
                refine hK.out _ _ (trivial) (fun hHeld => ?_)
                clear hK K
                try simp only [Act.put, List.setIfInBounds_toArray, List.set_cons_zero, List.set_cons_succ]
                refine wpAnyH_ready (rs := [2, 5]) (by kernel_rfl) (by simp) ?_
                refine AllReadyH.cons rfl (fun K hK => ?_) (AllReadyH.cons rfl (fun K hK => ?_) (AllReadyH.nil))
                · skip
                  have k2 : w5.cell? ⟨b10, 2, none⟩ = some v2 := H5.out.2.1.1.box.cell 2
                  go_simp
                  refine hK.out _ _ (trivial) (fun hHeld => ?_)
                  clear hK K
                  try simp only [Act.put, List.setIfInBounds_toArray, List.set_cons_zero, List.set_cons_succ]
                  refine wpAnyH_ready (rs := [5]) (by kernel_rfl) (by simp) ?_
                  refine AllReadyH.cons rfl (fun K hK => ?_) (AllReadyH.nil)
                  go_simp
                  refine hK.out _ _ (trivial) (fun hHeld => ?_)
                  clear hK K
                  try simp only [Act.put, List.setIfInBounds_toArray, List.set_cons_zero, List.set_cons_succ]
                  refine wpAnyH_ready (rs := [6]) (by kernel_rfl) (by simp) ?_
                  refine AllReadyH.cons rfl (fun K hK => ?_) (AllReadyH.nil)
                  refine step_app_ints rfl _ _ rfl w0.heap.size k v2 L2 rfl H5.out.2.2 (some ⟨w5.heap.size, 0, none⟩) 1 1 [((x : Nat) : Int)] rfl (ints_one w5 _ H5.out.1.2) (fun e => by cases e) (by omega) H5.out.1.1 ?_
                  intro v' w6 r1 r2
                  obtain ⟨adv, nv, cv, rfl⟩ := owns_slice' r1
                  have HST := hid (HSP.out w5 w6 x q5 b5 _ H5.out.2.1 r1 r2)
                  obtain ⟨y2, fy, -⟩ := HST.out
                  clear r1 r2
                  refine hK.out _ _ (trivial) (fun hHeld => ?_)
                  clear hK K
                  refine wpAnyH_take (i := 7) (oi := { dst := some 67, op := Op.fieldAddr 65 (Operand.tmp 10) 1, type := 0, pos := "ref.go:122", after := #[{ on := 0, ground := Ground.phase }, { on := 1, ground := Ground.phase }, { on := 2, ground := Ground.phase }, { on := 3, ground := Ground.phase }, { on := 4, ground := Ground.phase }, { on := 5, ground := Ground.phase }, { on := 6, ground := Ground.phase }], guard := none }) (v := ?_) rfl (by kernel_rfl) (by kernel_rfl) (by kernel_rfl) (fun _ _ _ h => h) (Or.inl ⟨by rfl, ?_⟩) hHeld ?_
                  rotate_left
                  · intro w hSw; (try dsimp only at hSw); go_simp; try with_reducible rfl
                  refine wpAnyH_take (i := 8) (oi := { dst := some 68, op := Op.fieldAddr 49 (Operand.tmp 67) 1, type := 0, pos := "ref.go:122", after := #[{ on := 7, ground := Ground.data }, { on := 0, ground := Ground.phase }, { on := 1, ground := Ground.phase }, { on := 2, ground := Ground.phase }, { on := 3, ground := Ground.phase }, { on := 4, ground := Ground.phase }, { on := 5, ground := Ground.phase }, { on := 6, ground := Ground.phase }], guard := none }) (v := ?_) rfl (by kernel_rfl) (by kernel_rfl) (by kernel_rfl) (fun _ _ _ h => h) (Or.inl ⟨by rfl, ?_⟩) hHeld ?_
                  rotate_left
                  · intro w hSw; (try dsimp only at hSw); go_simp; try with_reducible rfl
                  refine wpAnyH_ready (rs := [9]) (by kernel_rfl) (by simp) ?_
                  refine AllReadyH.cons rfl (fun K hK => ?_) (AllReadyH.nil)
                  go_simp
                  refine hK.out _ _ (trivial) (fun hHeld => ?_)
                  clear hK K
                  refine wpAnyH_done (by kernel_rfl) ?_ _
                  go_wp2_with fail
                  exact ⟨⟨k + 1, by omega, by go_num, _, _, _, _, hid HST.out.2.2.1, hid HST.out.2.2.2⟩, by simp [intOf]; omega⟩
                · skip
                  go_simp
                  refine hK.out _ _ (trivial) (fun hHeld => ?_)
                  clear hK K
                  try simp only [Act.put, List.setIfInBounds_toArray, List.set_cons_zero, List.set_cons_succ]
                  refine wpAnyH_ready (rs := [2]) (by kernel_rfl) (by simp) ?_
                  refine AllReadyH.cons rfl (fun K hK => ?_) (AllReadyH.nil)
                  have k2 : (w5.alloc (.cells #[.int .i64 ((x : Nat) : Int)] 3)).cell? ⟨b10, 2, none⟩ = some v2 := (H5.out.2.1.1.box.later ((Below.refl _ _).alloc (Nat.le_refl _) _)).cell 2
                  go_simp
                  refine hK.out _ _ (trivial) (fun hHeld => ?_)
                  clear hK K
                  try simp only [Act.put, List.setIfInBounds_toArray, List.set_cons_zero, List.set_cons_succ]
                  refine wpAnyH_ready (rs := [6]) (by kernel_rfl) (by simp) ?_
                  refine AllReadyH.cons rfl (fun K hK => ?_) (AllReadyH.nil)
                  refine step_app_ints rfl _ _ rfl w0.heap.size k v2 L2 rfl H5.out.2.2 (some ⟨w5.heap.size, 0, none⟩) 1 1 [((x : Nat) : Int)] rfl (ints_one w5 _ H5.out.1.2) (fun e => by cases e) (by omega) H5.out.1.1 ?_
                  intro v' w6 r1 r2
                  obtain ⟨adv, nv, cv, rfl⟩ := owns_slice' r1
                  have HST := hid (HSP.out w5 w6 x q5 b5 _ H5.out.2.1 r1 r2)
                  obtain ⟨y2, fy, -⟩ := HST.out
                  clear r1 r2
                  refine hK.out _ _ (trivial) (fun hHeld => ?_)
                  clear hK K
                  refine wpAnyH_take (i := 7) (oi := { dst := some 67, op := Op.fieldAddr 65 (Operand.tmp 10) 1, type := 0, pos := "ref.go:122", after := #[{ on := 0, ground := Ground.phase }, { on := 1, ground := Ground.phase }, { on := 2, ground := Ground.phase }, { on := 3, ground := Ground.phase }, { on := 4, ground := Ground.phase }, { on := 5, ground := Ground.phase }, { on := 6, ground := Ground.phase }], guard := none }) (v := ?_) rfl (by kernel_rfl) (by kernel_rfl) (by kernel_rfl) (fun _ _ _ h => h) (Or.inl ⟨by rfl, ?_⟩) hHeld ?_
                  rotate_left
                  · intro w hSw; (try dsimp only at hSw); go_simp; try with_reducible rfl
                  refine wpAnyH_take (i := 8) (oi := { dst := some 68, op := Op.fieldAddr 49 (Operand.tmp 67) 1, type := 0, pos := "ref.go:122", after := #[{ on := 7, ground := Ground.data }, { on := 0, ground := Ground.phase }, { on := 1, ground := Ground.phase }, { on := 2, ground := Ground.phase }, { on := 3, ground := Ground.phase }, { on := 4, ground := Ground.phase }, { on := 5, ground := Ground.phase }, { on := 6, ground := Ground.phase }], guard := none }) (v := ?_) rfl (by kernel_rfl) (by kernel_rfl) (by kernel_rfl) (fun _ _ _ h => h) (Or.inl ⟨by rfl, ?_⟩) hHeld ?_
                  rotate_left
                  · intro w hSw; (try dsimp only at hSw); go_simp; try with_reducible rfl
                  refine wpAnyH_ready (rs := [9]) (by kernel_rfl) (by simp) ?_
                  refine AllReadyH.cons rfl (fun K hK => ?_) (AllReadyH.nil)
                  go_simp
                  refine hK.out _ _ (trivial) (fun hHeld => ?_)
                  clear hK K
                  refine wpAnyH_done (by kernel_rfl) ?_ _
                  go_wp2_with fail
                  exact ⟨⟨k + 1, by omega, by go_num, _, _, _, _, hid HST.out.2.2.1, hid HST.out.2.2.2⟩, by simp [intOf]; omega⟩
            · have hlt2 : decide ((k : Int) < (x3 : Int)) = false := by simp; omega
              have hkx : k = x3 := by omega
              have HCW := hid (HC.out.num (by omega) (by omega) HP.out.chg HP.out.rd)
              obtain ⟨s, rfl, HNS⟩ := HSL.out wr v2 k L2 HP.out.own HI.out.1 HI.out.2.2.2.2
              have u0 : wr.cell? ⟨b10, 0, none⟩ = some (.int .i64 ((x1 : Nat) : Int)) := HP.out.box.cell 0
              have u1 : wr.cell? ⟨b10, 1, none⟩ = some (.int .i64 ((x2 : Nat) : Int)) := HP.out.box.cell 1
              have u2 : wr.cell? ⟨b10, 2, none⟩ = some (.slice s.ad s.m s.c) := HP.out.box.cell 2
              have u3 : wr.cell? ⟨b7, 2, none⟩ = some v := HCW.out.box.cell 2
              have HOP : Hid (OwnP 65 (wr.alloc (.cells #[.int .i64 ((x1 : Nat) : Int), .int .i64 ((x2 : Nat) : Int), .slice s.ad s.m s.c] 65)) (w.heap.size + 1) v L A) := hid (HCW.out.own.later ((Below.refl _ _).alloc (Nat.le_refl _) _))
              have HLB : Hid (Blk (wr.alloc (.cells #[.int .i64 ((x1 : Nat) : Int), .int .i64 ((x2 : Nat) : Int), .slice s.ad s.m s.c] 65)) wr.heap.size #[.int .i64 ((x1 : Nat) : Int), .int .i64 ((x2 : Nat) : Int), .slice s.ad s.m s.c] 65) := hid (heap_alloc_new wr _)
              have HSZ : Hid (w.heap.size + 1 ≤ (wr.alloc (.cells #[.int .i64 ((x1 : Nat) : Int), .int .i64 ((x2 : Nat) : Int), .slice s.ad s.m s.c] 65)).heap.size) := hid (by have := HP.out.chg.size; simp; omega)
              have HRN : Hid (∀ (v' : Value) (w6 : World), OwnP 65 w6 (w.heap.size + 1) v' (L ++ [(⟨((x1 : Nat) : Int), ((x2 : Nat) : Int), L2⟩ : Pt)]) (fun i => if i < L.length then A i else s) → (wr.alloc (.cells #[.int .i64 ((x1 : Nat) : Int), .int .i64 ((x2 : Nat) : Int), .slice s.ad s.m s.c] 65)).grownBy w6 v.ownBlock → w6.cell? ⟨b7, 2, none⟩ = some v ∧ w6.frozen? ⟨b7, 2, none⟩ = false ∧ CI w (w.heap.size + 1) ad len cap b7 xoI xtI q false (L ++ [(⟨((x1 : Nat) : Int), ((x2 : Nat) : Int), L2⟩ : Pt)]) (fun i => if i < L.length then A i else s) v' (w6.setCell ⟨b7, 2, none⟩ v')) := hid (fun v' w6 r1 r2 => HCW.out.part (by omega) (by omega) (by omega) (HNS.out.down (by omega)) _ r1 r2)
              have HNX : Hid ((L ++ [(⟨((x1 : Nat) : Int), ((x2 : Nat) : Int), L2⟩ : Pt)]).length = j + 1 ∧ q ≤ len ∧ (false = false → q = posAt l (j + 1) ∧ L ++ [(⟨((x1 : Nat) : Int), ((x2 : Nat) : Int), L2⟩ : Pt)] = partsAt l (j + 1) ∧ HD l xoI xtI xn) ∧ (false = true → ¬ posAt l (cntAt l) ≤ len)) := hid (HNXT.out q false k L2 HI.out (fun _ => hkx))
              clear HSL HNXT
              go_wp2_with (at_builtin; refine app_part ptypeR rfl _ _ rfl (w.heap.size + 1) v L A rfl HOP.out wr.heap.size (⟨((x1 : Nat) : Int), ((x2 : Nat) : Int), L2⟩ : Pt) s rfl HLB.out (by have := hLj; omega) HSZ.out ?_; intro v' w6 r1 r2 r3; obtain ⟨adv, nv, cv, rfl⟩ := owns_slice' r1; have HRR := hid (HRN.out _ w6 r1 r2); obtain ⟨y2, fy, -⟩ := HRR.out; clear r1 r2 r3)
              exact ⟨⟨j + 1, by omega, by go_num, q, false, _, _, _, hid HRR.out.2.2, HNX⟩, by simp [intOf]; omega⟩
      · have hlt : decide ((j : Int) < (xn : Int)) = false := by simp; omega
        obtain ⟨hq, hL, hho, hht, hhn⟩ := HO.out.2.2.1 rfl
        obtain rfl : j = xn := by omega
        subst hhn
        have hnodes : ∀ i, i < cntAt l → ptAt L i = partAt l (posAt l i) := fun i hi => by rw [hL]; unfold ptAt partsAt; rw [List.getD_eq_getElem?_getD, List.getElem?_map, List.getElem?_range hi]; rfl
        have hform := HC.out.own.form (fun i hi => ⟨(HC.out.new i hi).ints, (HC.out.new i hi).nil⟩) (fun i hi => by
          rw [hLj] at hi
          rw [hnodes i hi]
          have e1 := nAt_lt l HLT.out (posAt l i) 6 (by omega)
          have e2 := nAt_lt l HLT.out (posAt l i + 6) 6 (by omega)
          unfold partAt
          simp only
          omega)
        rw [hLj] at hform
        obtain ⟨ad', c', rfl, hA, hbl⟩ := hform
        have HCA : Hid (CAns wr (w.heap.size + 1) (partsAt l (cntAt l)) ad' (cntAt l) c') := hid (by
          rw [← hL]
          exact ⟨A, hA, ⟨fun _ b off e => hbl b off e, fun i hi h0 b off e => ((HC.out.new i (by rw [hLj]; exact hi)).new h0 b off e).1⟩, fun i hi h0 b off e => ((HC.out.new i (by rw [hLj]; exact hi)).new h0 b off e).2⟩)
        have HCK : Hid (Calls Try.prog 15 #[.agg #[.int .i64 xoI, .int .i64 xtI, .slice ad' (cntAt l) c'], .int .i64 n] wr fun e w' => e = .returned (.int .i64 (mayN (readC l).owner (readC l).trim (readC l).parts n)) ∧ Below wr.heap.size wr w') := hid (by
          have := refChk_any hA xoI xtI n
          rw [hL, hho, hht] at this
          rw [hho, hht]
          exact this)
        have HRT : Hid (Ending.returned (.tuple #[.agg #[.int .i64 xoI, .int .i64 xtI, .slice ad' (cntAt l) c'], .int .i64 0]) = Ending.returned (.tuple #[.agg #[.int .i64 (readC l).owner, .int .i64 (readC l).trim, .slice ad' (cntAt l) c'], .int .i64 0])) := hid (by rw [hho, hht]; rfl)
        have c1 : wr.cell? ⟨w.heap.size + 1, 1, none⟩ = some (.int .i64 ((q : Nat) : Int)) := HC.out.rd.cell 1
        have u0 : wr.cell? ⟨b7, 0, none⟩ = some (.int .i64 xoI) := HC.out.box.cell 0
        have u1 : wr.cell? ⟨b7, 1, none⟩ = some (.int .i64 xtI) := HC.out.box.cell 1
        have u2 : wr.cell? ⟨b7, 2, none⟩ = some (.slice ad' (cntAt l) c') := HC.out.box.cell 2
        clear hA hbl hnodes
        by_cases e1 : q = len
        · have d2 : (((q : Nat) : Int) == (len : Int)) = true := by simp; omega
          by_cases e2 : mayC (readC l).owner (readC l).trim (readC l).parts n
          · have HE : Hid (decE l n = 0) := hid (decE_0 a1 ⟨by rw [HLN.out, ← e1, hq], e2⟩)
            rw [mayN_ok e2] at HCK
            clear e2 a1 hq hL hho hht
            subst e1
            go_wp2_with (go_at_call 15; refine HCK.out.mono ?_; rintro xx w9 ⟨rfl, hb9⟩; have HB9 := hid hb9; have HZR := HC.out.res.later hb9; have z0 : w9.cell? ⟨w.heap.size, 0, none⟩ = some (.int .i64 0) := HZR.cell 0; have z1 : w9.cell? ⟨w.heap.size, 1, none⟩ = some (.int .i64 0) := HZR.cell 1; have z2 : w9.cell? ⟨w.heap.size, 2, none⟩ = some (.slice none 0 0) := HZR.cell 2; have f0 := HZR.free 0; have f1 := HZR.free 1; have f2 := HZR.free 2; have HBX := HC.out.box.later hb9; have t0 : w9.cell? ⟨b7, 0, none⟩ = some (.int .i64 xoI) := HBX.cell 0; have t1 : w9.cell? ⟨b7, 1, none⟩ = some (.int .i64 xtI) := HBX.cell 1; have t2 : w9.cell? ⟨b7, 2, none⟩ = some (.slice ad' (cntAt l) c') := HBX.cell 2; clear hb9 HBX)
            have hbw : Below w.heap.size w w9 := HC.out.below.trans (HB9.out.mono HC.out.below.size)
            have HFC : Hid (∀ Y, Chg [w.heap.size] w9 Y → CAns Y w.heap.size (readC l).parts ad' (cntAt l) c') := hid (fun Y hY => ((HCA.out.later HB9.out).chg hY (fun g hg => by simp at hg; omega)).down (by omega))
            have m0 := ((HZR.set 0 (.int .i64 xoI)).set 1 (.int .i64 xtI)).set 2 (.slice ad' (cntAt l) c')
            have s0 : (((w9.setCell ⟨w.heap.size, 0, none⟩ (.int .i64 xoI)).setCell ⟨w.heap.size, 1, none⟩ (.int .i64 xtI)).setCell ⟨w.heap.size, 2, none⟩ (.slice ad' (cntAt l) c')).cell? ⟨w.heap.size, 0, none⟩ = some (.int .i64 xoI) := m0.cell 0
            have s1 : (((w9.setCell ⟨w.heap.size, 0, none⟩ (.int .i64 xoI)).setCell ⟨w.heap.size, 1, none⟩ (.int .i64 xtI)).setCell ⟨w.heap.size, 2, none⟩ (.slice ad' (cntAt l) c')).cell? ⟨w.heap.size, 1, none⟩ = some (.int .i64 xtI) := m0.cell 1
            have s2 : (((w9.setCell ⟨w.heap.size, 0, none⟩ (.int .i64 xoI)).setCell ⟨w.heap.size, 1, none⟩ (.int .i64 xtI)).setCell ⟨w.heap.size, 2, none⟩ (.slice ad' (cntAt l) c')).cell? ⟨w.heap.size, 2, none⟩ = some (.slice ad' (cntAt l) c') := m0.cell 2
            have hcg : Chg [w.heap.size] w9 (((w9.setCell ⟨w.heap.size, 0, none⟩ (.int .i64 xoI)).setCell ⟨w.heap.size, 1, none⟩ (.int .i64 xtI)).setCell ⟨w.heap.size, 2, none⟩ (.slice ad' (cntAt l) c')) := (((Chg.refl _ w9).set (Or.inl (by simp)) _ _).set (Or.inl (by simp)) _ _).set (Or.inl (by simp)) _ _
            refine bodyPost_ret (v := .tuple #[.agg #[.int .i64 xoI, .int .i64 xtI, .slice ad' (cntAt l) c'], .int .i64 0]) (by simp [results, Try.results12, go_sem, s0, s1, s2]) rfl ⟨ad', cntAt l, c', by rw [decC_ok HE.out, HE.out]; exact HRT.out, hid ?_, hbw.trans (hcg.below (fun k hk => by simp at hk; omega) hbw.size)⟩
            rw [decC_ok HE.out]
            exact HFC.out _ hcg
          · have HE : Hid (decE l n = 22) := hid (decE_22 a1 (fun hh => e2 hh.2))
            rw [mayN_no e2] at HCK
            clear e2 a1 hq hL hho hht
            subst e1
            go_wp2_with (go_at_call 15; refine HCK.out.mono ?_; rintro xx w9 ⟨rfl, hb9⟩; have HB9 := hid hb9; have HZR := HC.out.res.later hb9; have z0 : w9.cell? ⟨w.heap.size, 0, none⟩ = some (.int .i64 0) := HZR.cell 0; have z1 : w9.cell? ⟨w.heap.size, 1, none⟩ = some (.int .i64 0) := HZR.cell 1; have z2 : w9.cell? ⟨w.heap.size, 2, none⟩ = some (.slice none 0 0) := HZR.cell 2; have f0 := HZR.free 0; have f1 := HZR.free 1; have f2 := HZR.free 2; clear hb9)
            have hbw : Below w.heap.size w w9 := HC.out.below.trans (HB9.out.mono HC.out.below.size)
            have m0 := ((HZR.set 0 (.int .i64 0)).set 1 (.int .i64 0)).set 2 (.slice none 0 0)
            have s0 : (((w9.setCell ⟨w.heap.size, 0, none⟩ (.int .i64 0)).setCell ⟨w.heap.size, 1, none⟩ (.int .i64 0)).setCell ⟨w.heap.size, 2, none⟩ (.slice none 0 0)).cell? ⟨w.heap.size, 0, none⟩ = some (.int .i64 0) := m0.cell 0
            have s1 : (((w9.setCell ⟨w.heap.size, 0, none⟩ (.int .i64 0)).setCell ⟨w.heap.size, 1, none⟩ (.int .i64 0)).setCell ⟨w.heap.size, 2, none⟩ (.slice none 0 0)).cell? ⟨w.heap.size, 1, none⟩ = some (.int .i64 0) := m0.cell 1
            have s2 : (((w9.setCell ⟨w.heap.size, 0, none⟩ (.int .i64 0)).setCell ⟨w.heap.size, 1, none⟩ (.int .i64 0)).setCell ⟨w.heap.size, 2, none⟩ (.slice none 0 0)).cell? ⟨w.heap.size, 2, none⟩ = some (.slice none 0 0) := m0.cell 2
            have hcg : Chg [w.heap.size] w9 (((w9.setCell ⟨w.heap.size, 0, none⟩ (.int .i64 0)).setCell ⟨w.heap.size, 1, none⟩ (.int .i64 0)).setCell ⟨w.heap.size, 2, none⟩ (.slice none 0 0)) := (((Chg.refl _ w9).set (Or.inl (by simp)) _ _).set (Or.inl (by simp)) _ _).set (Or.inl (by simp)) _ _
            refine bodyPost_ret (v := .tuple #[.agg #[.int .i64 0, .int .i64 0, .slice none 0 0], .int .i64 22]) (by simp [results, Try.results12, go_sem, s0, s1, s2]) rfl ⟨none, 0, 0, by rw [decC_no (by rw [HE.out]; decide), HE.out], hid (by rw [decC_no (by rw [HE.out]; decide)]; exact CAns.none _ _), hbw.trans (hcg.below (fun k hk => by simp at hk; omega) hbw.size)⟩
        · have d2 : (((q : Nat) : Int) == (len : Int)) = false := by simp; omega
          have HE : Hid (decE l n = 22) := hid (decE_22 a1 (fun hh => e1 (by rw [hq, hh.1, HLN.out])))
          clear a1 hq hL hho hht HCK
          have z0 : wr.cell? ⟨w.heap.size, 0, none⟩ = some (.int .i64 0) := HC.out.res.cell 0
          have z1 : wr.cell? ⟨w.heap.size, 1, none⟩ = some (.int .i64 0) := HC.out.res.cell 1
          have z2 : wr.cell? ⟨w.heap.size, 2, none⟩ = some (.slice none 0 0) := HC.out.res.cell 2
          have f0 := HC.out.res.free 0
          have f1 := HC.out.res.free 1
          have f2 := HC.out.res.free 2
          have HZR := HC.out.res
          have hbw := HC.out.below
          go_wp2_with fail
          have m0 := ((HZR.set 0 (.int .i64 0)).set 1 (.int .i64 0)).set 2 (.slice none 0 0)
          have s0 : (((wr.setCell ⟨w.heap.size, 0, none⟩ (.int .i64 0)).setCell ⟨w.heap.size, 1, none⟩ (.int .i64 0)).setCell ⟨w.heap.size, 2, none⟩ (.slice none 0 0)).cell? ⟨w.heap.size, 0, none⟩ = some (.int .i64 0) := m0.cell 0
          have s1 : (((wr.setCell ⟨w.heap.size, 0, none⟩ (.int .i64 0)).setCell ⟨w.heap.size, 1, none⟩ (.int .i64 0)).setCell ⟨w.heap.size, 2, none⟩ (.slice none 0 0)).cell? ⟨w.heap.size, 1, none⟩ = some (.int .i64 0) := m0.cell 1
          have s2 : (((wr.setCell ⟨w.heap.size, 0, none⟩ (.int .i64 0)).setCell ⟨w.heap.size, 1, none⟩ (.int .i64 0)).setCell ⟨w.heap.size, 2, none⟩ (.slice none 0 0)).cell? ⟨w.heap.size, 2, none⟩ = some (.slice none 0 0) := m0.cell 2
          have hcg : Chg [w.heap.size] wr (((wr.setCell ⟨w.heap.size, 0, none⟩ (.int .i64 0)).setCell ⟨w.heap.size, 1, none⟩ (.int .i64 0)).setCell ⟨w.heap.size, 2, none⟩ (.slice none 0 0)) := (((Chg.refl _ wr).set (Or.inl (by simp)) _ _).set (Or.inl (by simp)) _ _).set (Or.inl (by simp)) _ _
          refine bodyPost_ret (v := .tuple #[.agg #[.int .i64 0, .int .i64 0, .slice none 0 0], .int .i64 22]) (by simp [results, Try.results12, go_sem, s0, s1, s2]) rfl ⟨none, 0, 0, by rw [decC_no (by rw [HE.out]; decide), HE.out], hid (by rw [decC_no (by rw [HE.out]; decide)]; exact CAns.none _ _), hbw.trans (hcg.below (fun k hk => by simp at hk; omega) hbw.size)⟩
end Go.Proofs.Ythadagpfmacemaa.Rf
