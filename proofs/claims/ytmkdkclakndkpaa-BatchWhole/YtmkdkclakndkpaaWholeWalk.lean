/- The walk of the statement BatchWhole: it returns true at every input, and writes nothing that was there. -/
import Derived.Test.YtmkdkclakndkpaaKnows2
import Derived.Test.YtmkdkclakndkpaaDecode
import Derived.Deep.DeepAppendWide
namespace Go.Proofs.Ytmkdkclakndkpaa
open Go.RowKit

theorem encW_err {b : Bat} (h : checkN b ≠ 0) : encodeN b = (checkN b, []) := by unfold encodeN; rw [if_neg h]
theorem encW_ok {b : Bat} (h : checkN b = 0) : encodeN b = (0, writeN b) := by unfold encodeN; rw [if_pos h]
/-- 'append(v, x...)' with room for somewhat more. -/
theorem app_wide {w : World} {ops : Array Oper} {rest : List Oper} {o : Oper} {a : Act} {Q : Exit → Act → World → Prop} (hgd : o.guard = none) (s x : Operand)
    (ho : o.op = .call { callee := .builtin .append, args := #[s, x], argTypes := #[33, 33] })
    (base : Nat) (v : Value) (n : Nat) (L : List Nat) (hs : a.eval s = v) (hown : w.ownsRow base 5 1 v n (L.map bv))
    (ad : Option Addr) (m c : Nat) (l : List Nat) (hx : a.eval x = .slice ad m c) (hl : l.length = m) (hnone : ad = none → m = 0 ∧ c = 0) (hrow : Row w ad l)
    (hbytes : n + m ≤ 200000000000000) (hbase : base ≤ w.heap.size)
    (h : ∀ v' w', w'.ownsRow base 5 1 v' (n + m) ((L ++ l).map bv) → w.grownBy w' v.ownBlock → wpList Try.prog ops Q rest (a.put o.dst v') w') : wpList Try.prog ops Q (o :: rest) a w := by
  obtain ⟨i0, hi, hz0, hz1, hz2⟩ := info_parts Try.info5
  cases ad with
  | none =>
    obtain ⟨rfl, rfl⟩ := hnone rfl
    obtain rfl : l = [] := List.eq_nil_of_length_eq_zero hl
    refine wpList_append_own_none hgd s x 33 ho base 5 i0 1 Try.underlying33 hi v n _ hs hown hx ?_
    exact h v w (by simpa using hown) (World.grownBy.refl _ _)
  | some ad =>
    refine wpList_append_own_wide w hgd s x 33 ho base 5 i0 (.int .u8 0) 1 1 Try.underlying33 hi hz0 hz1 hz2 rfl (by decide) v n _ hs hown ad m c (l.map bv) hx (by simp [hl]) (row_cells hrow ad rfl) (bv_one l) (by unfold maxLen; omega) (by omega) hbase ?_
    intro v' w' h1 h2 _
    rw [← List.map_append] at h1
    exact h v' w' h1 h2
theorem Part.take {w : World} {ad : Option Addr} {n c m : Nat} {l : List Nat} (h : Part.ok w ⟨ad, n, c, l⟩) (hm : m ≤ n) (h0 : ad = none → m = 0 ∧ c = 0) : Part.ok w ⟨ad, m, c, l.take m⟩ := by
  have hl : l.length = n := h.1
  refine ⟨by show (l.take m).length = m; simp; omega, h0, take_mem h.2.2.1 m, ?_⟩
  have hr : Row w ad l := h.2.2
  rcases hr.2 with e | ⟨b, off, e, hs, hc⟩
  · exact Or.inl (by rw [e]; simp)
  · refine Or.inr ⟨b, off, e, hs, fun i hi => ?_⟩
    have hi' : i < (l.take m).length := hi
    have hi2 : i < m ∧ i < l.length := by simp at hi'; omega
    rw [hc i hi2.2]
    congr 3
    rw [List.getD_eq_getElem?_getD, List.getD_eq_getElem?_getD, List.getElem?_take, if_pos hi2.1]
theorem write_last (b : Bat) (n : Nat) (hn : (writeN b).length = n) (h : 18 ≤ n) : writeN b = (writeN b).take (n - 1) ++ [(writeN b).getD (n - 1) 0] := by
  have h1 := take_snoc (writeN b) (n - 1) (by omega)
  rw [show n - 1 + 1 = n by omega, List.take_of_length_le (by omega)] at h1
  exact h1
set_option maxRecDepth 100000 in
set_option maxHeartbeats 4000000 in
theorem whole_walk (k p e s : Int) (t : Bool) (rs : List Rec) (ad : Option Addr) (len cap : Nat) (xd : Option Addr) (xlen xcap : Nat) (l : List Nat) (w : World) (h : BArg w ⟨k, p, e, s, t, rs⟩ ad len cap) (hm : len * 40 ≤ 140737488351232) (hx : Part.ok w ⟨xd, xlen, xcap, l⟩) (hxc : xlen ≤ xcap) (hxr : xcap ≤ 140737488351232) :
    Calls Try.prog 7 #[.agg #[.int .i64 k, .int .i64 p, .int .i64 e, .int .i64 s, .bool t, .slice ad len cap], .slice xd xlen xcap] w fun r w' => r = .returned (.bool true) ∧ Below w.heap.size w w' := by
  have b0 : Below w.heap.size w (w.alloc (.cells #[.int .i64 k, .int .i64 p, .int .i64 e, .int .i64 s, .bool t, .slice ad len cap] 24)) := (Below.refl _ _).alloc (Nat.le_refl _) _
  have A0 : Hid (BArg w ⟨k, p, e, s, t, rs⟩ ad len cap) := h
  have HX : Hid (Part.ok w ⟨xd, xlen, xcap, l⟩) := hx
  have HLx : Hid (l.length = xlen) := hx.1
  clear h hx
  go_enter Try.func7, Try.ntmps7
  go_wp2_with fail
  refine (copied_any k p e s t rs ad len cap _ (A0.out.later b0) hm).mono ?_
  rintro r w1 ⟨a1, c1, rfl, A1, b1⟩
  have b01 : Below w.heap.size w w1 := b0.trans (b1.mono b0.size)
  have A1' : Hid (BArg w1 ⟨k, p, e, s, t, rs⟩ a1 len c1) := A1
  clear b0 b1 A1
  go_wp2_with fail
  refine (encode_any k p e s t rs a1 len c1 _ A1'.out).mono ?_
  rintro r w2 ⟨v2, rfl, own2, b2⟩
  have b02 : Below w.heap.size w w2 := b01.trans (b2.mono b01.size)
  clear b01 b2 A1'
  by_cases hc : checkN ⟨k, p, e, s, t, rs⟩ = 0
  · rw [encW_ok hc] at own2 ⊢
    simp only at own2
    have hsz : (writeN ⟨k, p, e, s, t, rs⟩).length ≤ 65536 := by rw [writeN_length]; exact (checkN_ok hc).2.2.2.2
    have hsz2 : 18 ≤ (writeN ⟨k, p, e, s, t, rs⟩).length := by rw [writeN_length, sizeN]; omega
    obtain ⟨n2, hn2⟩ : ∃ n, (writeN ⟨k, p, e, s, t, rs⟩).length = n := ⟨_, rfl⟩
    rw [hn2] at hsz hsz2
    obtain ⟨a2, c2, rfl, ok2, hc2, -⟩ := own2.slice n2 hn2
    have P2 : Hid (Part.ok w2 ⟨a2, n2, c2, writeN ⟨k, p, e, s, t, rs⟩⟩) := ok2
    have HN : Hid ((writeN ⟨k, p, e, s, t, rs⟩).length = n2) := hn2
    clear own2 ok2 hn2
    go_wp2_with (first | (go_at_call 10; refine (num2_any _ _).mono ?_; rintro e w' ⟨rfl, hw'⟩; obtain rfl := hw'.symm) | (go_at_call 16; refine (knows2_any _).mono ?_; rintro r w3 ⟨rfl, b3⟩))
    have b03 : Below w.heap.size w w3 := b02.trans (b3.mono b02.size)
    have P3 : Hid (Part.ok w3 ⟨a2, n2, c2, writeN ⟨k, p, e, s, t, rs⟩⟩) := P2.out.later b3
    have HD1 := decode_any a2 (n2 - 1) c2 _ w3 (Part.take P3.out (by omega) (fun e => (by have := P3.out.2.1 e; simp only at this; omega))) (by omega) (by omega)
    rw [decode_short _ hc _ _ (write_last _ n2 HN.out hsz2)] at HD1
    simp only at HD1
    have HB : Hid (decodeN (writeN ⟨k, p, e, s, t, rs⟩ ++ l) = (if xlen = 0 then ((⟨k, p, e, s, t, rs⟩ : Bat), (0 : Int)) else (bat0, 22))) := by
      show _ = _
      by_cases h0 : xlen = 0
      · have e : l = [] := List.eq_nil_of_length_eq_zero (by rw [HLx.out]; exact h0)
        rw [if_pos h0, e, List.append_nil, decode_back _ hc]
      · rw [if_neg h0, decode_long _ hc l (fun e => h0 (by rw [← HLx.out, e]; rfl))]
    have W256 : Hid (∀ x ∈ writeN ⟨k, p, e, s, t, rs⟩, x < 256) := writeN_lt _ hc
    clear b3 P2 hc b02
    generalize writeN ⟨k, p, e, s, t, rs⟩ = wl at *
    refine HD1.mono ?_
    rintro r w4 ⟨k4, p4, e4, s4, t4, rs4, a4, n4, c4, rfl, -, -, b4⟩
    have b04 : Below w.heap.size w w4 := b03.trans (b4.mono b03.size)
    have P4 : Hid (Part.ok w4 ⟨a2, n2, c2, wl⟩) := P3.out.later b4
    clear b4 P3 HD1 b03
    obtain ⟨N5, hN5⟩ : ∃ N, n2 + xlen = N := ⟨_, rfl⟩
    have HN5 : Hid (n2 + xlen = N5) := hN5
    have lN5 : N5 ≤ 140737488416768 := by omega
    clear hN5
    have bb : Below w4.heap.size w4 ((w4.alloc (.cells #[.int .i64 k4, .int .i64 p4, .int .i64 e4, .int .i64 s4, .bool t4, .slice a4 n4 c4] 24)).alloc (.cells #[] 5)) := ((Below.refl _ _).alloc (Nat.le_refl _) _).alloc (by simp) _
    have bA : Below w.heap.size w ((w4.alloc (.cells #[.int .i64 k4, .int .i64 p4, .int .i64 e4, .int .i64 s4, .bool t4, .slice a4 n4 c4] 24)).alloc (.cells #[] 5)) := b04.trans (bb.mono b04.size)
    have PA : Hid (Part.ok ((w4.alloc (.cells #[.int .i64 k4, .int .i64 p4, .int .i64 e4, .int .i64 s4, .bool t4, .slice a4 n4 c4] 24)).alloc (.cells #[] 5)) ⟨a2, n2, c2, wl⟩) := P4.out.later bb
    have OA : Hid (((w4.alloc (.cells #[.int .i64 k4, .int .i64 p4, .int .i64 e4, .int .i64 s4, .bool t4, .slice a4 n4 c4] 24)).alloc (.cells #[] 5)).ownsRow w.heap.size 5 1 (.slice (some ⟨w4.heap.size + 1, 0, none⟩) 0 0) 0 (([] : List Nat).map bv)) := by
      have h := empty_own (w4.alloc (.cells #[.int .i64 k4, .int .i64 p4, .int .i64 e4, .int .i64 s4, .bool t4, .slice a4 n4 c4] 24)) w.heap.size (by have := b04.size; simp; omega)
      rw [show (w4.alloc (.cells #[.int .i64 k4, .int .i64 p4, .int .i64 e4, .int .i64 s4, .bool t4, .slice a4 n4 c4] 24)).heap.size = w4.heap.size + 1 by simp] at h
      exact h
    have sA := bA.size
    have s4 := b04.size
    clear bb P4 b04
    go_wp2_with (first
      | (at_builtin; refine app_any rfl _ _ rfl w.heap.size (.slice (some ⟨w4.heap.size + 1, 0, none⟩) 0 0) 0 [] rfl OA.out a2 n2 c2 wl rfl PA.out.1 PA.out.2.1 PA.out.2.2 (by omega) sA ?_; intro v5 w5 hown5 hg5; have b05 := bA.grown hg5 sA (by intro k hk; simp [Value.ownBlock] at hk; omega); have O5 : Hid (w5.ownsRow w.heap.size 5 1 v5 n2 (wl.map bv)) := (by simp only [Nat.zero_add, List.nil_append] at hown5; exact hown5); have s5 := b05.size; obtain ⟨g5, d5, rfl, -, -⟩ := World.ownsRow.form O5.out (by omega); clear hown5 hg5 OA PA sA bA)
      | (at_builtin; refine app_wide rfl _ _ rfl w.heap.size (.slice (some ⟨g5, 0, none⟩) n2 d5) n2 wl rfl O5.out xd xlen xcap l rfl HLx.out (HX.out.later b05).2.1 (HX.out.later b05).2.2 (by omega) s5 ?_; intro v6 w6 hown6 hg6; have b06 := b05.grown hg6 s5 (fun k hk => (O5.out.lt k hk).1); rw [HN5.out] at hown6; have O6 : Hid (Own w6 w.heap.size v6 (wl ++ l)) := ⟨fun x hx => (List.mem_append.1 hx).elim (W256.out x) (HX.out.2.2.1 x), by rw [List.length_append, HN.out, HLx.out, HN5.out]; exact hown6⟩; obtain ⟨a6, d6, rfl, ok6, hd6, -⟩ := O6.out.slice N5 (by rw [List.length_append, HN.out, HLx.out, HN5.out]); have P6 : Hid (Part.ok w6 ⟨a6, N5, d6, wl ++ l⟩) := ok6; clear hown6 hg6 ok6 O5 O6 b05 s5))
    have HD2 := decode_any a6 N5 d6 (wl ++ l) w6 P6.out hd6 (by omega)
    rw [HB.out] at HD2
    refine HD2.mono ?_
    rintro r w7 ⟨k7, p7, e7, s7, t7, rs7, a7, n7, c7, rfl, -, -, b7⟩
    have b07 : Below w.heap.size w w7 := b06.trans (b7.mono b06.size)
    clear HD2 b7 b06 P6
    by_cases hx0 : xlen = 0
    · rw [if_pos hx0]
      subst hx0
      go_wp2_with (go_at_call 10; refine (num2_any _ _).mono ?_; rintro e w' ⟨rfl, hw'⟩; obtain rfl := hw'.symm)
      go_ret
      exact ⟨rfl, b07.alloc b07.size _⟩
    · rw [if_neg hx0]
      have hx1 : ((xlen : Int) == 0) = false := by simp; omega
      have hx2 : decide ((0 : Int) < xlen) = true := by simp; omega
      go_wp2_with (go_at_call 10; refine (num2_any _ _).mono ?_; rintro e w' ⟨rfl, hw'⟩; obtain rfl := hw'.symm)
      go_ret
      exact ⟨rfl, b07.alloc b07.size _⟩
  · rw [encW_err hc] at own2 ⊢
    have hc2 : (checkN ⟨k, p, e, s, t, rs⟩ != 0) = true := by simpa using hc
    simp only at own2
    obtain ⟨a2, c2, rfl, -⟩ := own2.slice 0 rfl
    clear own2
    generalize checkN ⟨k, p, e, s, t, rs⟩ = cc at *
    go_wp2_with (first | (go_at_call 10; refine (num2_any _ _).mono ?_; rintro e w' ⟨rfl, hw'⟩; obtain rfl := hw'.symm) | (go_at_call 16; refine (knows2_any _).mono ?_; rintro r w9 ⟨rfl, b9⟩))
    go_ret
    exact ⟨rfl, b02.trans (b9.mono b02.size)⟩
end Go.Proofs.Ytmkdkclakndkpaa
