/- AcceptorAlone, walked. -/
import Derived.Test.YtmiibakbcogolaaGreatPAcZ
import Derived.Test.YtmiibakbcogolaaGreatPAcO
import Derived.Test.YtmiibakbcogolaaGreatPAcG
namespace Go.Proofs.YtmiibakbcogolaaGreat.Ac
open Go.RowKit Go.Shelf Crcm

theorem K2.make {w w1 w2 : World} {Fa Fc : List Nat} {Ba Bc : Nat} {sa sc : SSt} (ha : AUp w1 Fa Ba sa kn00) (hFa : ∀ g ∈ Fa, w.heap.size ≤ g) (hb1 : Below w.heap.size w w1) (hc : AUp w2 Fc Bc sc kn00) (hFc : ∀ g ∈ Fc, w1.heap.size ≤ g) (hb2 : Below w1.heap.size w1 w2) : K2 w w2 Ba Bc sa sc kn00 kn00 [] [] :=
  ⟨⟨Fa, Fc, ha.later hb2, hc, hFa, fun g hg => Nat.le_trans hb1.size (hFc g hg), fun g hg hm => absurd (ha.lt g hg) (by have := hFc g hm; omega), fun x hx => (by cases hx), fun x hx => (by cases hx)⟩, fun x hx => (by cases hx), fun x hx => (by cases hx), hb1.trans (hb2.mono hb1.size)⟩
/-- Two acceptors, the first asked m times, the second at most so, that know the same of key 0, version 1. -/
def Two (w : World) (Ba Bc : Nat) (m : Nat) (wr : World) : Prop := ∃ sa sc ka kc, Side sa ka m ∧ Side sc kc m ∧ knAt ka 0 1 = knAt kc 0 1 ∧ K2 w wr Ba Bc sa sc ka kc [] []
abbrev TAskR : TypeId := 24
abbrev TAnsA : TypeId := 36
set_option maxRecDepth 100000 in
set_option maxHeartbeats 16000000 in
theorem alone_walk (ad : Option Addr) (len cap : Nat) (f : Nat → AskD) (w : World) (ho : Ops8 w f ad len) :
    Calls Tryz.prog 8 #[.slice ad len cap] w fun e w' => e = .returned (.bool true) ∧ Below w.heap.size w w' := by
  have HNEW := new_up 300 w (by omega) (by omega)
  have HN : Hid (∀ x w1, NewPost (sst0 (newD (300 : Int).toNat)) w x w1 → ∃ Ba, x = .returned (.tuple #[.pointer (some ⟨Ba, 0, none⟩), .int .i64 0]) ∧ Hid (∃ Fa, AUp w1 Fa Ba (sst0 (newD 300)) kn00 ∧ (∀ g ∈ Fa, w.heap.size ≤ g) ∧ Below w.heap.size w w1)) := hid (fun x w1 hx => by
    obtain ⟨F, B, rfl, hu, hF, hb⟩ := hx
    exact ⟨B, rfl, hid ⟨F, hu, hF, hb⟩⟩)
  have HN2 : Hid (∀ (w1 : World) (Ba : Nat), (∃ Fa, AUp w1 Fa Ba (sst0 (newD 300)) kn00 ∧ (∀ g ∈ Fa, w.heap.size ≤ g) ∧ Below w.heap.size w w1) → Calls Tryz.prog 24 #[.int .i64 300] w1 fun x w2 => ∃ Bc, x = .returned (.tuple #[.pointer (some ⟨Bc, 0, none⟩), .int .i64 0]) ∧ Hid (Two w Ba Bc 0 w2)) := hid (fun w1 Ba hA => by
    refine (new_up 300 w1 (by omega) (by omega)).mono ?_
    rintro x w2 ⟨F, B, rfl, hu, hF, hb⟩
    obtain ⟨Fa, ha, hFa, hb1⟩ := hA
    exact ⟨B, rfl, hid ⟨_, _, _, _, side0, side0, rfl, K2.make ha hFa hb1 hu hF hb⟩⟩)
  have HO : Hid (Ops8 w f ad len) := ho
  clear ho
  go_enter Tryz.func8, Tryz.ntmps8
  go_wp2_with (first
    | (go_at_call 24; (with_reducible_and_instances (refine HNEW.mono ?_)); intro x w1 hx; obtain ⟨Ba, rfl, KA⟩ := HN.out _ _ hx; clear hx HN HNEW)
    | (go_at_call 24; (with_reducible_and_instances (refine (HN2.out w1 Ba KA.out).mono ?_)); rintro x w2 ⟨Bc, rfl, T2⟩; clear HN2 KA)
    | (go_at_call 19; refine (num8_any _ _).mono ?_; rintro x w' ⟨rfl, hw'⟩; obtain rfl := hw'.symm)
    | (go_at_call 23; refine (knows8 _).mono ?_; rintro x w3 ⟨rfl, b3⟩; have T3 : Hid (Two w Ba Bc 0 w3) := hid (by obtain ⟨sa, sc, ka, kc, p1, p2, p3, p4⟩ := T2.out; exact ⟨sa, sc, ka, kc, p1, p2, p3, p4.later b3⟩); clear b3 T2))
  go_loopw [7] (fun i wr => ∃ m : Nat, m ≤ len ∧ i = .int .i64 m ∧ Hid (Two w Ba Bc m wr)) (fun i _ => len - (intOf i).toNat)
  case atStart => exact ⟨0, by omega, rfl, T3⟩
  case round =>
    obtain ⟨m, hm, rfl, HT⟩ := hrel
    clear T3
    by_cases h1 : m < len
    · by_cases h2 : m < 60
      · obtain ⟨sa, sc, ka, kc, hsa, hsc, hkk, hK⟩ := HT.out
        obtain ⟨b, off, rfl, hb, hall⟩ := HO.out.resolve_left (by omega)
        obtain ⟨hat, hok⟩ := hall m h1
        obtain ⟨k, g, v, bb, Q, hsm, HSM⟩ := small_any (f m) w hok
        obtain ⟨⟨zk, zg, zv, zb, ⟨za, zl, zc, zs⟩⟩, hfm⟩ : ∃ r, f m = r := ⟨_, rfl⟩
        rw [hfm] at hat HSM
        have hbl := hK.below
        have q0 := (hbl.cell (p := ⟨b, off + m * 9 + 2, none⟩) hb).trans hat.c0
        have q1 := (hbl.cell (p := ⟨b, off + m * 9 + 2 + 1, none⟩) hb).trans hat.c1
        have q2 := (hbl.cell (p := ⟨b, off + m * 9 + 2 + 2, none⟩) hb).trans hat.c2
        have q3 := (hbl.cell (p := ⟨b, off + m * 9 + 2 + 3, none⟩) hb).trans hat.c3
        have q4 := (hbl.cell (p := ⟨b, off + m * 9 + 2 + 4, none⟩) hb).trans hat.c4
        simp only at q0 q1 q2 q3 q4
        unfold askV at HSM
        simp only at HSM
        have HSM' : Hid (∀ w, Calls Tryz.prog 32 #[.agg #[.int .i64 zk, .int .i64 zg, .int .i64 zv, .int .i64 zb, .slice za zl zc]] w fun x w' => x = .returned (.agg #[.int .i64 (k : Int), .int .i64 (g : Int), .int .i64 (v : Int), .int .i64 (bb : Int), .slice Q.ad Q.len Q.cap]) ∧ Below w.heap.size w w') := HSM
        have hQl : Q.l.length = Q.len := hsm.ok.1
        obtain ⟨sa', hsa', CA⟩ := hsa.ask h2 k g v bb Q.l hsm.kind (by rw [hQl]; exact hsm.may) (by rw [hQl]; exact hsm.len) hsm.ok.2.2.1
        have CC := fun hg0 : g = 0 ∧ v = 1 => hsc.ask h2 k g v bb Q.l hsm.kind (by rw [hQl]; exact hsm.may) (by rw [hQl]; exact hsm.len) hsm.ok.2.2.1
        have hkk' : g = 0 ∧ v = 1 → knAt kc g v = knAt ka g v := fun h => by rw [h.1, h.2]; exact hkk.symm
        obtain ⟨⟨e, ⟨kp, kb, ks, kv⟩⟩, hR⟩ : ∃ R, ruleN k (knAt ka g v) bb Q.l = R := ⟨_, rfl⟩
        rw [hR] at CA hsa'
        obtain ⟨ka', hka⟩ : ∃ ka', knTo ka g v ⟨kp, kb, ks, kv⟩ = ka' := ⟨_, rfl⟩
        simp only at CA hsa'
        rw [hka] at CA hsa'
        unfold askV at CA
        have HA : Hid (∀ (W : World) (X : List Bx), K2 w W Ba Bc sa sc ka kc X [] → Calls Tryz.prog 33 #[.pointer (some ⟨Ba, 0, none⟩), .agg #[.int .i64 (k : Int), .int .i64 (g : Int), .int .i64 (v : Int), .int .i64 (bb : Int), .slice Q.ad Q.len Q.cap]] W fun x w' => ∃ r : Part, x = .returned (.tuple #[.agg #[.int .i64 (e : Int), .int .i64 (v : Int), .int .i64 (kp : Int), .int .i64 (kb : Int), .bool ks, .slice r.ad r.len r.cap], .bool true]) ∧ Hid (r.l = kv) ∧ Hid (K2 w w' Ba Bc sa' sc ka' kc X [r])) := hid (fun W X hW => hW.askA (fun F hu => CA W F Ba Q.ad Q.len Q.cap hu (hsm.ok.later hW.below)))
        have HK : Hid (K2 w wr Ba Bc sa sc ka kc [] []) := hK
        have HF : Hid (¬ (g = 0 ∧ v = 1) → ∀ W X Y, K2 w W Ba Bc sa' sc ka' kc X Y → Two w Ba Bc (m + 1) W) := hid (fun hn W X Y hW => ⟨sa', sc, ka', kc, hsa', hsc.mono (Nat.le_succ _), by rw [← hka, knTo_other' _ _ _ _ _ _ (fun h => hn ⟨h.1.symm, h.2.symm⟩)]; exact hkk, hW.drop⟩)
        have HC : Hid (g = 0 ∧ v = 1 → ∃ sc' kc', (∀ W X Y, K2 w W Ba Bc sa' sc' ka' kc' X Y → Two w Ba Bc (m + 1) W) ∧ (∀ (W : World) (X : List Bx) (Y : List Part), K2 w W Ba Bc sa' sc ka' kc X Y → Calls Tryz.prog 33 #[.pointer (some ⟨Bc, 0, none⟩), .agg #[.int .i64 (k : Int), .int .i64 (g : Int), .int .i64 (v : Int), .int .i64 (bb : Int), .slice Q.ad Q.len Q.cap]] W fun x w' => ∃ r : Part, x = .returned (.tuple #[.agg #[.int .i64 (e : Int), .int .i64 (v : Int), .int .i64 (kp : Int), .int .i64 (kb : Int), .bool ks, .slice r.ad r.len r.cap], .bool true]) ∧ Hid (r.l = kv ∧ r.ok w' ∧ ∀ y ∈ Y, y.ok w') ∧ Hid (K2 w w' Ba Bc sa' sc' ka' kc' X []))) := hid (fun hgv => by
          obtain ⟨sc', hsc', CD⟩ := CC hgv
          rw [hkk' hgv, hR] at CD hsc'
          simp only at CD hsc'
          unfold askV at CD
          refine ⟨sc', _, fun W X Y hW => ⟨sa', sc', ka', _, hsa', hsc', ?_, hW.drop⟩, fun W X Y hW => hW.askC (fun F hu => CD W F Bc Q.ad Q.len Q.cap hu (hsm.ok.later hW.below))⟩
          obtain ⟨rfl, rfl⟩ := hgv
          rw [← hka, knTo_at, knTo_at])
        have hkey := hsm.key
        have hver := hsm.ver
        clear HSM hat hok hall hfm hK hbl HT HO CA CC hkk' hR hka hsa hsc hsa' hkk hsm hQl
        have hgv : (g = 0 ∧ v = 1) ∨ (g = 0 ∧ v = 2) ∨ g = 1 := by omega
        rcases hgv with hgv | hgv | hgv
        · obtain ⟨sc', kc', HF', HC'⟩ := HC.out hgv
          have HFF : Hid (∀ W X Y, K2 w W Ba Bc sa' sc' ka' kc' X Y → Two w Ba Bc (m + 1) W) := HF'
          have HCC : Hid (∀ (W : World) (X : List Bx) (Y : List Part), K2 w W Ba Bc sa' sc ka' kc X Y → Calls Tryz.prog 33 #[.pointer (some ⟨Bc, 0, none⟩), .agg #[.int .i64 (k : Int), .int .i64 (g : Int), .int .i64 (v : Int), .int .i64 (bb : Int), .slice Q.ad Q.len Q.cap]] W fun x w' => ∃ r : Part, x = .returned (.tuple #[.agg #[.int .i64 (e : Int), .int .i64 (v : Int), .int .i64 (kp : Int), .int .i64 (kb : Int), .bool ks, .slice r.ad r.len r.cap], .bool true]) ∧ Hid (r.l = kv ∧ r.ok w' ∧ ∀ y ∈ Y, y.ok w') ∧ Hid (K2 w w' Ba Bc sa' sc' ka' kc' X [])) := HC'
          clear HF' HC' HC HF hkey hver
          obtain ⟨rfl, rfl⟩ := hgv
          go_wp2_with (first
            | (go_at_call 32; refine (HSM'.out _).mono ?_; rintro x w4 ⟨rfl, b4⟩; have K4 : Hid (K2 w (w4.alloc (.cells #[.int .i64 (k : Int), .int .i64 0, .int .i64 1, .int .i64 (bb : Int), .slice Q.ad Q.len Q.cap] TAskR)) Ba Bc sa sc ka kc [(w4.heap.size, #[.int .i64 (k : Int), .int .i64 0, .int .i64 1, .int .i64 (bb : Int), .slice Q.ad Q.len Q.cap], TAskR)] []) := hid ((HK.out.later b4).alloc _ _); clear HSM' b4 HK)
            | (go_at_call 33; (with_reducible_and_instances (refine (HA.out (w4.alloc (.cells #[.int .i64 (k : Int), .int .i64 0, .int .i64 1, .int .i64 (bb : Int), .slice Q.ad Q.len Q.cap] TAskR)) _ K4.out).mono ?_)); rintro x w5 ⟨r1, rfl, R1, KA5⟩; have K5 : Hid (K2 w (w5.alloc (.cells #[.int .i64 (e : Int), .int .i64 1, .int .i64 (kp : Int), .int .i64 (kb : Int), .bool ks, .slice r1.ad r1.len r1.cap] TAnsA)) Ba Bc sa' sc ka' kc [(w5.heap.size, #[.int .i64 (e : Int), .int .i64 1, .int .i64 (kp : Int), .int .i64 (kb : Int), .bool ks, .slice r1.ad r1.len r1.cap], TAnsA), (w4.heap.size, #[.int .i64 (k : Int), .int .i64 0, .int .i64 1, .int .i64 (bb : Int), .slice Q.ad Q.len Q.cap], TAskR)] [r1]) := hid (KA5.out.alloc _ _); obtain ⟨⟨x0, x1, x2, x3, x4⟩, -⟩ := blk5 (K5.out.box _ (List.mem_cons_of_mem _ List.mem_cons_self)); clear KA5 K4 HA)
            | (go_at_call 33; (with_reducible_and_instances (refine (HCC.out (w5.alloc (.cells #[.int .i64 (e : Int), .int .i64 1, .int .i64 (kp : Int), .int .i64 (kb : Int), .bool ks, .slice r1.ad r1.len r1.cap] TAnsA)) _ _ K5.out).mono ?_)); rintro x w6 ⟨r2, rfl, R2, KA6⟩; have K6 : Hid (K2 w (w6.alloc (.cells #[.int .i64 (e : Int), .int .i64 1, .int .i64 (kp : Int), .int .i64 (kb : Int), .bool ks, .slice r2.ad r2.len r2.cap] TAnsA)) Ba Bc sa' sc' ka' kc' [(w6.heap.size, #[.int .i64 (e : Int), .int .i64 1, .int .i64 (kp : Int), .int .i64 (kb : Int), .bool ks, .slice r2.ad r2.len r2.cap], TAnsA), (w5.heap.size, #[.int .i64 (e : Int), .int .i64 1, .int .i64 (kp : Int), .int .i64 (kb : Int), .bool ks, .slice r1.ad r1.len r1.cap], TAnsA), (w4.heap.size, #[.int .i64 (k : Int), .int .i64 0, .int .i64 1, .int .i64 (bb : Int), .slice Q.ad Q.len Q.cap], TAskR)] []) := hid (KA6.out.alloc _ _); clear x0 x1 x2 x3 x4 KA6 HCC))
          obtain ⟨W6, hW6⟩ : ∃ W6, w6.alloc (.cells #[.int .i64 (e : Int), .int .i64 1, .int .i64 (kp : Int), .int .i64 (kb : Int), .bool ks, .slice r2.ad r2.len r2.cap] TAnsA) = W6 := ⟨_, rfl⟩
          have hba : Below w6.heap.size w6 W6.drew := by rw [← hW6]; exact ((Below.refl _ _).alloc (Nat.le_refl _) _).drew
          obtain ⟨tx, htx⟩ : ∃ tx, bstr kv = tx := ⟨_, rfl⟩
          have k1 := conv_any (part_of ((R2.out.2.2 r1 List.mem_cons_self).later hba) R1.out).2.2 r1.len r1.cap (part_of ((R2.out.2.2 r1 List.mem_cons_self).later hba) R1.out).1
          have k2 := conv_any (part_of (R2.out.2.1.later hba) R2.out.1).2.2 r2.len r2.cap (part_of (R2.out.2.1.later hba) R2.out.1).1
          rw [htx] at k1 k2
          rw [hW6] at K6 ⊢
          have K7 : Hid (K2 w W6.drew Ba Bc sa' sc' ka' kc' [(w6.heap.size, #[.int .i64 (e : Int), .int .i64 1, .int .i64 (kp : Int), .int .i64 (kb : Int), .bool ks, .slice r2.ad r2.len r2.cap], TAnsA), (w5.heap.size, #[.int .i64 (e : Int), .int .i64 1, .int .i64 (kp : Int), .int .i64 (kb : Int), .bool ks, .slice r1.ad r1.len r1.cap], TAnsA), (w4.heap.size, #[.int .i64 (k : Int), .int .i64 0, .int .i64 1, .int .i64 (bb : Int), .slice Q.ad Q.len Q.cap], TAskR)] []) := hid (K6.out.later (Below.refl _ _).drew)
          obtain ⟨⟨z0, -, z2, z3, z4, z5⟩, -⟩ := blk6 (K7.out.box _ List.mem_cons_self)
          obtain ⟨⟨y0, -, y2, y3, y4, y5⟩, -⟩ := blk6 (K7.out.box _ (List.mem_cons_of_mem _ List.mem_cons_self))
          have HS : Hid (W6.drew.cell? ⟨w5.heap.size, 0, none⟩ = some (.int .i64 (e : Int)) ∧ W6.drew.cell? ⟨w5.heap.size, 2, none⟩ = some (.int .i64 (kp : Int)) ∧ W6.drew.cell? ⟨w5.heap.size, 3, none⟩ = some (.int .i64 (kb : Int)) ∧ W6.drew.cell? ⟨w5.heap.size, 4, none⟩ = some (.bool ks) ∧ W6.drew.cell? ⟨w5.heap.size, 5, none⟩ = some (.slice r1.ad r1.len r1.cap) ∧ W6.drew.cell? ⟨w6.heap.size, 0, none⟩ = some (.int .i64 (e : Int)) ∧ W6.drew.cell? ⟨w6.heap.size, 2, none⟩ = some (.int .i64 (kp : Int)) ∧ W6.drew.cell? ⟨w6.heap.size, 3, none⟩ = some (.int .i64 (kb : Int)) ∧ W6.drew.cell? ⟨w6.heap.size, 4, none⟩ = some (.bool ks) ∧ W6.drew.cell? ⟨w6.heap.size, 5, none⟩ = some (.slice r2.ad r2.len r2.cap) ∧ (convert 22 9 (.slice r1.ad r1.len r1.cap)).run Tryz.prog W6.drew = .ok (.string tx) W6.drew ∧ (convert 22 9 (.slice r2.ad r2.len r2.cap)).run Tryz.prog W6.drew = .ok (.string tx) W6.drew) := (show Hid _ from ⟨y0, y2, y3, y4, y5, z0, z2, z3, z4, z5, k1, k2⟩)
          clear hW6 hba k1 k2 z0 z2 z3 z4 z5 y0 y2 y3 y4 y5 K6 htx q0 q1 q2 q3 q4 K5 R1 R2
          go_region_held3 (fun W => W.cell? ⟨w5.heap.size, 0, none⟩ = some (.int .i64 (e : Int)) ∧ W.cell? ⟨w5.heap.size, 2, none⟩ = some (.int .i64 (kp : Int)) ∧ W.cell? ⟨w5.heap.size, 3, none⟩ = some (.int .i64 (kb : Int)) ∧ W.cell? ⟨w5.heap.size, 4, none⟩ = some (.bool ks) ∧ W.cell? ⟨w5.heap.size, 5, none⟩ = some (.slice r1.ad r1.len r1.cap) ∧ W.cell? ⟨w6.heap.size, 0, none⟩ = some (.int .i64 (e : Int)) ∧ W.cell? ⟨w6.heap.size, 2, none⟩ = some (.int .i64 (kp : Int)) ∧ W.cell? ⟨w6.heap.size, 3, none⟩ = some (.int .i64 (kb : Int)) ∧ W.cell? ⟨w6.heap.size, 4, none⟩ = some (.bool ks) ∧ W.cell? ⟨w6.heap.size, 5, none⟩ = some (.slice r2.ad r2.len r2.cap) ∧ (convert 22 9 (.slice r1.ad r1.len r1.cap)).run Tryz.prog W = .ok (.string tx) W ∧ (convert 22 9 (.slice r2.ad r2.len r2.cap)).run Tryz.prog W = .ok (.string tx) W)
            (with_reducible exact HS.out)
            ((go_at_call 19; refine (num8_any _ _).mono ?_; rintro x w' ⟨rfl, hw'⟩; obtain rfl := hw'.symm))
          all_goals go_wp2_with fail
          all_goals go_roundw
          case rel => exact ⟨m + 1, by omega, rfl, hid (HFF.out _ _ _ K7.out)⟩
          case measure => simp [intOf]; omega
        · have HF' : Hid (∀ W X Y, K2 w W Ba Bc sa' sc ka' kc X Y → Two w Ba Bc (m + 1) W) := hid (HF.out (by omega))
          clear HC HF hkey hver
          obtain ⟨rfl, rfl⟩ := hgv
          go_wp2_with (first
            | (go_at_call 32; refine (HSM'.out _).mono ?_; rintro x w4 ⟨rfl, b4⟩; have K4 : Hid (K2 w (w4.alloc (.cells #[.int .i64 (k : Int), .int .i64 0, .int .i64 2, .int .i64 (bb : Int), .slice Q.ad Q.len Q.cap] TAskR)) Ba Bc sa sc ka kc [(w4.heap.size, #[.int .i64 (k : Int), .int .i64 0, .int .i64 2, .int .i64 (bb : Int), .slice Q.ad Q.len Q.cap], TAskR)] []) := hid ((HK.out.later b4).alloc _ _); clear HSM' b4 HK)
            | (go_at_call 33; (with_reducible_and_instances (refine (HA.out (w4.alloc (.cells #[.int .i64 (k : Int), .int .i64 0, .int .i64 2, .int .i64 (bb : Int), .slice Q.ad Q.len Q.cap] TAskR)) _ K4.out).mono ?_)); rintro x w5 ⟨r1, rfl, R1, KA5⟩; have K5 : Hid (K2 w (w5.alloc (.cells #[.int .i64 (e : Int), .int .i64 2, .int .i64 (kp : Int), .int .i64 (kb : Int), .bool ks, .slice r1.ad r1.len r1.cap] TAnsA)) Ba Bc sa' sc ka' kc [(w5.heap.size, #[.int .i64 (e : Int), .int .i64 2, .int .i64 (kp : Int), .int .i64 (kb : Int), .bool ks, .slice r1.ad r1.len r1.cap], TAnsA), (w4.heap.size, #[.int .i64 (k : Int), .int .i64 0, .int .i64 2, .int .i64 (bb : Int), .slice Q.ad Q.len Q.cap], TAskR)] [r1]) := hid (KA5.out.alloc _ _); obtain ⟨⟨x0, x1, x2, x3, x4⟩, -⟩ := blk5 (K5.out.box _ (List.mem_cons_of_mem _ List.mem_cons_self)); clear KA5 K4 HA))
          go_roundw
          case rel => exact ⟨m + 1, by omega, rfl, hid (HF'.out _ _ _ K5.out)⟩
          case measure => simp [intOf]; omega
        · have HF' : Hid (∀ W X Y, K2 w W Ba Bc sa' sc ka' kc X Y → Two w Ba Bc (m + 1) W) := hid (HF.out (by omega))
          clear HC HF
          subst hgv
          have hk1 : ((1 : Int) != 0) = true := rfl
          go_wp2_with (first
            | (go_at_call 32; refine (HSM'.out _).mono ?_; rintro x w4 ⟨rfl, b4⟩; have K4 : Hid (K2 w (w4.alloc (.cells #[.int .i64 (k : Int), .int .i64 1, .int .i64 (v : Int), .int .i64 (bb : Int), .slice Q.ad Q.len Q.cap] TAskR)) Ba Bc sa sc ka kc [(w4.heap.size, #[.int .i64 (k : Int), .int .i64 1, .int .i64 (v : Int), .int .i64 (bb : Int), .slice Q.ad Q.len Q.cap], TAskR)] []) := hid ((HK.out.later b4).alloc _ _); clear HSM' b4 HK)
            | (go_at_call 33; (with_reducible_and_instances (refine (HA.out (w4.alloc (.cells #[.int .i64 (k : Int), .int .i64 1, .int .i64 (v : Int), .int .i64 (bb : Int), .slice Q.ad Q.len Q.cap] TAskR)) _ K4.out).mono ?_)); rintro x w5 ⟨r1, rfl, R1, KA5⟩; have K5 : Hid (K2 w (w5.alloc (.cells #[.int .i64 (e : Int), .int .i64 (v : Int), .int .i64 (kp : Int), .int .i64 (kb : Int), .bool ks, .slice r1.ad r1.len r1.cap] TAnsA)) Ba Bc sa' sc ka' kc [(w5.heap.size, #[.int .i64 (e : Int), .int .i64 (v : Int), .int .i64 (kp : Int), .int .i64 (kb : Int), .bool ks, .slice r1.ad r1.len r1.cap], TAnsA), (w4.heap.size, #[.int .i64 (k : Int), .int .i64 1, .int .i64 (v : Int), .int .i64 (bb : Int), .slice Q.ad Q.len Q.cap], TAskR)] [r1]) := hid (KA5.out.alloc _ _); obtain ⟨⟨x0, x1, x2, x3, x4⟩, -⟩ := blk5 (K5.out.box _ (List.mem_cons_of_mem _ List.mem_cons_self)); clear KA5 K4 HA))
          go_roundw
          case rel => exact ⟨m + 1, by omega, rfl, hid (HF'.out _ _ _ K5.out)⟩
          case measure => simp [intOf]; omega
      · go_wp2_with fail
        go_ret
        obtain ⟨sa, sc, ka, kc, -, -, -, hK⟩ := HT.out
        exact ⟨rfl, hK.below⟩
    · go_wp2_with fail
      go_ret
      obtain ⟨sa, sc, ka, kc, -, -, -, hK⟩ := HT.out
      exact ⟨rfl, hK.below⟩
end Go.Proofs.YtmiibakbcogolaaGreat.Ac
