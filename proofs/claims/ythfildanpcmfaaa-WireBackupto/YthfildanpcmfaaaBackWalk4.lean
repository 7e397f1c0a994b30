/- The walk of the statement WireBack where the number was refused, the text was refused, the frame was made. -/
import Derived.Test.YthfildanpcmfaaaOpen
import Derived.Test.YthfildanpcmfaaaBackAt
namespace Go.Proofs.Ythfildanpcmfaaa
open Go.RowKit Crcm

set_option maxRecDepth 100000 in
set_option maxHeartbeats 8000000 in
theorem back_4 (n size : Int) (s : ByteArray) (kind : Int) (bo : Option Addr) (bol boc : Nat) (body : List Nat) (ao : Option Addr) (al ac : Nat) (ahead : List Nat) (eo : Option Addr) (el ec : Nat) (behind : List Nat)
    (l1 l2 l3 : List Nat) (n1 n2 n3 : Nat) (e1 e2 e3 : Int) (w : World) (hs : s.size ≤ 1048576) (h1 : putN n size = (e1, l1)) (h2 : textN s = (e2, l2)) (h3 : frameN kind body = (e3, l3)) (m1 : l1.length = n1) (m2 : l2.length = n2) (m3 : l3.length = n3) (_k1 : n1 ≤ 6) (_k2 : n2 ≤ 65537) (_k3 : n3 ≤ 65545)
    (q1 : (e1 == 0) = false) (q2 : (e2 == 0) = false) (q3 : (e3 == 0) = true)
    (r1 : ∀ A B : List Nat, A.length = al → e1 = 0 → ∃ sz : Nat, size = sz ∧ n1 = sz ∧ getN (A ++ (l1 ++ B)) al sz = (n, ((al + n1 : Nat) : Int), 0))
    (r2 : ∀ (A B : List Nat) (p : Nat), A.length = p → e2 = 0 → getTextN (A ++ (l2 ++ B)) p = (s, ((p + n2 : Nat) : Int), 0))
    (r3 : ∀ (A B : List Nat) (p : Nat), A.length = p → e3 = 0 → unframeN (A ++ (l3 ++ B)) p = (kind, body, ((p + n3 : Nat) : Int), 0))
    (pb : Part.ok w ⟨bo, bol, boc, body⟩) (pa : Part.ok w ⟨ao, al, ac, ahead⟩) (pe : Part.ok w ⟨eo, el, ec, behind⟩) (hb : bol ≤ 1048576) (ha : al ≤ 1048576) (he : el ≤ 1048576) :
    Calls Try.prog 6 #[.int .i64 n, .int .i64 size, .string s, .int .i64 kind, .slice bo bol boc, .slice ao al ac, .slice eo el ec] w fun e w' => e = .returned (.bool true) ∧ Below w.heap.size w w' := by
  have H1 : Hid (putN n size = (e1, l1)) := h1
  have H2 : Hid (textN s = (e2, l2)) := h2
  have H3 : Hid (frameN kind body = (e3, l3)) := h3
  have M1 : Hid (l1.length = n1) := m1
  have M2 : Hid (l2.length = n2) := m2
  have M3 : Hid (l3.length = n3) := m3
  have PB : Hid (Part.ok w ⟨bo, bol, boc, body⟩) := pb
  have PA : Hid (Part.ok w ⟨ao, al, ac, ahead⟩) := pa
  have PE : Hid (Part.ok w ⟨eo, el, ec, behind⟩) := pe
  have R1 : Hid (∀ A B : List Nat, A.length = al → e1 = 0 → ∃ sz : Nat, size = sz ∧ n1 = sz ∧ getN (A ++ (l1 ++ B)) al sz = (n, ((al + n1 : Nat) : Int), 0)) := r1
  have R2 : Hid (∀ (A B : List Nat) (p : Nat), A.length = p → e2 = 0 → getTextN (A ++ (l2 ++ B)) p = (s, ((p + n2 : Nat) : Int), 0)) := r2
  have R3 : Hid (∀ (A B : List Nat) (p : Nat), A.length = p → e3 = 0 → unframeN (A ++ (l3 ++ B)) p = (kind, body, ((p + n3 : Nat) : Int), 0)) := r3
  clear h1 h2 h3 m1 m2 m3 pb pa pe r1 r2 r3
  go_enter Try.func6, Try.ntmps6
  go_wp2_with fail
  refine (put_any n size _).mono ?_
  rintro e w1 ⟨v1, rfl, own1, b1⟩
  rw [H1.out] at own1 ⊢
  obtain ⟨a1, c1, rfl, ok1, -⟩ := own1.slice n1 M1.out
  have P1 : Hid (Part.ok w1 ⟨a1, n1, c1, l1⟩) := ok1
  clear own1 ok1
  go_wp2_with fail
  refine (text_any s _ (by unfold maxLen; omega)).mono ?_
  rintro e w2 ⟨v2, rfl, own2, b2⟩
  rw [H2.out] at own2 ⊢
  obtain ⟨a2, c2, rfl, ok2, -⟩ := own2.slice n2 M2.out
  have P2 : Hid (Part.ok w2 ⟨a2, n2, c2, l2⟩) := ok2
  clear own2 ok2
  have b02 : Below w.heap.size w w2 := b1.trans (b2.mono b1.size)
  have x2 : Below w2.heap.size w2 (w2.alloc (.cells #[] 5)) := (Below.refl _ _).alloc (Nat.le_refl _) _
  have PB2 : Hid (Part.ok (w2.alloc (.cells #[] 5)) ⟨bo, bol, boc, body⟩) := (PB.out.later b02).later x2
  go_wp2_with (at_builtin; refine app_any rfl (.tmp 46) (.tmp 47) rfl w2.heap.size (.slice (some ⟨w2.heap.size, 0, none⟩) 0 0) 0 [] rfl (empty_own w2 w2.heap.size (Nat.le_refl _)) bo bol boc body rfl PB2.out.1 PB2.out.2.1 PB2.out.2.2 (by omega) (by simp) ?_; intro v3 w3 hown3 hg3; have x3 := x2.grown hg3 (by simp) (by intro k hk; simp [Value.ownBlock] at hk; omega); simp only [Nat.zero_add, List.nil_append] at hown3; clear hg3; obtain ⟨a3, c3, rfl, ok3, hlc3, -⟩ := Own.slice ⟨PB2.out.2.2.1, (by rw [PB2.out.1]; exact hown3)⟩ bol PB2.out.1)
  have P3 : Hid (Part.ok w3 ⟨a3, bol, c3, body⟩) := ok3
  clear hown3 ok3 PB2
  refine (frame_any kind a3 bol c3 body _ P3.out (by unfold maxLen; omega)).mono ?_
  rintro e w4 ⟨v4, rfl, own4, b4⟩
  rw [H3.out] at own4 ⊢
  obtain ⟨a4, c4, rfl, ok4, -⟩ := own4.slice n3 M3.out
  have b24 : Below w2.heap.size w2 w4 := x3.trans (b4.mono x3.size)
  have b04 : Below w.heap.size w w4 := b02.trans (b24.mono b02.size)
  have x4 : Below w4.heap.size w4 (w4.alloc (.cells #[] 5)) := (Below.refl _ _).alloc (Nat.le_refl _) _
  have F1 : Hid (Part.ok w4 ⟨a1, n1, c1, l1⟩) := P1.out.later (b2.trans (b24.mono b2.size))
  have F2 : Hid (Part.ok w4 ⟨a2, n2, c2, l2⟩) := P2.out.later b24
  have F3 : Hid (Part.ok w4 ⟨a4, n3, c4, l3⟩) := ok4
  have FA : Hid (Part.ok w4 ⟨ao, al, ac, ahead⟩) := PA.out.later b04
  have FE : Hid (Part.ok w4 ⟨eo, el, ec, behind⟩) := PE.out.later b04
  clear own4 ok4 P1 P2 P3 PA PE b1 b2 b02 x2 x3 b4 b24
  have HLEN : Hid ((ahead ++ l3 ++ behind).length = al + n3 + el) := by
    show _ = _
    have e1 := FA.out.1
    have e5 := FE.out.1
    have e4 := F3.out.1
    simp only [List.length_append]
    simp only at e1 e4 e5
    omega
  have HMEM : Hid (∀ x ∈ ahead ++ l3 ++ behind, x < 256) := by
    intro x hx
    simp only [List.mem_append] at hx
    rcases hx with (h | h) | h <;> first | exact FA.out.2.2.1 x h | exact F3.out.2.2.1 x h | exact FE.out.2.2.1 x h
  go_wp2_with (first | (go_at_call 14; refine (num_any _ _).mono ?_; rintro e w' ⟨rfl, hw'⟩; obtain rfl := hw'.symm) | (at_builtin; refine app_any rfl (.tmp 52) (.tmp 53) rfl w4.heap.size (.slice (some ⟨w4.heap.size, 0, none⟩) 0 0) 0 [] rfl (empty_own w4 w4.heap.size (Nat.le_refl _)) ao al ac ahead rfl FA.out.1 FA.out.2.1 (FA.out.later x4).2.2 (by omega) (by simp) ?_; intro v5 w5 hown5 hg5; have x5 := x4.grown hg5 (by simp) (by intro k hk; simp [Value.ownBlock] at hk; omega); simp only [Nat.zero_add, List.nil_append] at hown5; clear hg5) | (at_builtin; refine app_any rfl (.tmp 70) (.tmp 71) rfl w4.heap.size v5 (al) (ahead) rfl hown5 a4 n3 c4 l3 rfl F3.out.1 F3.out.2.1 (F3.out.later x5).2.2 (by omega) x5.size ?_; intro v8 w8 hown8 hg8; have x8 := x5.grown hg8 x5.size (fun k hk => (hown5.lt k hk).1); clear hg8 hown5) | (at_builtin; refine app_any rfl (.tmp 73) (.tmp 74) rfl w4.heap.size v8 (al + n3) (ahead ++ l3) rfl hown8 eo el ec behind rfl FE.out.1 FE.out.2.1 (FE.out.later x8).2.2 (by omega) x8.size ?_; intro v9 w9 hown9 hg9; have x9 := x8.grown hg9 x8.size (fun k hk => (hown8.lt k hk).1); clear hg9 hown8; obtain ⟨a9, c9, rfl, ok9, hlc9, -⟩ := Own.slice_n (n := al + n3 + el) (l := ahead ++ l3 ++ behind) ⟨HMEM.out, (by rw [HLEN.out]; exact hown9)⟩ HLEN.out))
  have P9 : Hid (Part.ok w9 ⟨a9, al + n3 + el, c9, ahead ++ l3 ++ behind⟩) := ok9
  clear hown9 ok9
  have b09 : Below w.heap.size w w9 := b04.trans (x9.mono b04.size)
  generalize hN : al + n3 + el = N at *
  have HN : Hid (al + n3 + el = N) := hN
  have hN1 : N ≤ al + n3 + el := by omega
  have hN2 : al + n3 + el ≤ N := by omega
  clear hN x4 x5 x8 x9 HMEM HLEN
  have EQ2 : Hid (ahead ++ l3 ++ behind = ahead ++ (l3 ++ (behind))) := by show _ = _; simp only [List.append_assoc]
  have HG2 : Hid (unframeN (ahead ++ l3 ++ behind) (al) = (kind, body, ((al + n3 : Nat) : Int), 0)) := by show _ = _; rw [EQ2.out]; exact R3.out (ahead) (behind) (al) (by show (ahead).length = al; have e1 := FA.out.1; (try simp only [List.length_append]); simp only at e1; omega) (eq_of_beq q3)
  refine (unframe_at a9 N c9 (ahead ++ l3 ++ behind) (al) _ _ (by omega) HG2.out P9.out hlc9 (by omega) (by omega)).mono ?_
  rintro e w10 ⟨ar, cr, rfl, okr, z10⟩
  have y10 : Below w9.heap.size w9 w10 := z10
  have kr := conv_any okr.2.2 body.length cr rfl
  have kb := conv_any (PB.out.later (b09.trans (y10.mono b09.size))).2.2 bol boc PB.out.1
  have hbl : Hid (body.length = bol) := PB.out.1
  simp only [hbl.out] at kr ⊢
  clear okr
  go_wp2_with (go_at_call 14; refine (num_any _ _).mono ?_; rintro e w' ⟨rfl, hw'⟩; obtain rfl := hw'.symm)
  refine (knows_any _).mono ?_
  rintro e w20 ⟨rfl, b20⟩
  have b0e : Below w.heap.size w w10 := b09.trans (y10.mono b09.size)
  go_wp2
  go_ret
  exact ⟨rfl, b0e.trans (b20.mono b0e.size)⟩
end Go.Proofs.Ythfildanpcmfaaa
