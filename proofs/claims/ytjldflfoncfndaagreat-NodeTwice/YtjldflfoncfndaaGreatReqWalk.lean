/- The walk of the statement NodeRequests: it returns true at every input, and writes nothing that was there. -/
import Derived.Test.YtjldflfoncfndaaGreatPKnow
import Derived.Test.YtjldflfoncfndaaGreatPLawQ
namespace Go.Proofs.YtjldflfoncfndaaGreat
open Go.RowKit Crcm

theorem getRequest_at {re rk rg rp : Int} {rd l : List Nat} (hr : getReqN l = ⟨re, rk, rg, rp, rd⟩) (hlen : l.length ≤ 1000000000000000) (W : World) (q : Part) (hq : q.l = l ∧ q.ok W) (hlc : q.len ≤ q.cap) :
    Calls Tryz.prog 15 #[.slice q.ad q.len q.cap] W fun x w' => ∃ s : Part, x = .returned (.tuple #[.agg #[.int .i64 rk, .int .i64 rg, .int .i64 rp, .slice s.ad s.len s.cap], .int .i64 re]) ∧ Hid (s.l = rd ∧ s.ok w') ∧ Below W.heap.size W w' := by
  have h := getRequest_any q.ad q.len q.cap l W (part_is hq) hlc (by rw [← (part_is hq).1]; exact hlen)
  rw [hr] at h
  exact h
theorem refGetRequest_at {re rk rg rp : Int} {rd l : List Nat} (hr : getReqN l = ⟨re, rk, rg, rp, rd⟩) (hlen : l.length ≤ 1000000000000000) (W : World) (ad : Option Addr) (len cap : Nat) (hq : Part.ok W ⟨ad, len, cap, l⟩) (hlc : len ≤ cap) :
    Calls Tryz.prog 16 #[.slice ad len cap] W fun x w' => ∃ s : Part, x = .returned (.tuple #[.agg #[.int .i64 rk, .int .i64 rg, .int .i64 rp, .slice s.ad s.len s.cap], .int .i64 re]) ∧ Hid (s.l = rd ∧ s.ok w') ∧ Below W.heap.size W w' := by
  have h := refGetRequest_any ad len cap l W hq hlc (by have e : l.length = len := hq.1; omega)
  rw [hr] at h
  exact h
theorem putRequest_at {z k g p : Int} {l b : List Nat} (hr : putReqN k g p l = (z, b)) (W : World) (q : Part) (hq : q.l = l ∧ q.ok W) :
    Calls Tryz.prog 10 #[.agg #[.int .i64 k, .int .i64 g, .int .i64 p, .slice q.ad q.len q.cap]] W fun x w' => ∃ s : Part, x = .returned (.tuple #[.slice s.ad s.len s.cap, .int .i64 z]) ∧ Hid (s.l = b ∧ s.ok w' ∧ s.len ≤ s.cap) ∧ Below W.heap.size W w' := by
  have h := putRequest_any k g p q.ad q.len q.cap l W (part_is hq)
  rw [hr] at h
  exact h
theorem refPutRequest_at {z k g p : Int} {l b : List Nat} (hr : putReqN k g p l = (z, b)) (W : World) (ad : Option Addr) (len cap : Nat) (hq : Part.ok W ⟨ad, len, cap, l⟩) :
    Calls Tryz.prog 11 #[.agg #[.int .i64 k, .int .i64 g, .int .i64 p, .slice ad len cap]] W fun x w' => ∃ s : Part, x = .returned (.tuple #[.slice s.ad s.len s.cap, .int .i64 z]) ∧ Hid (s.l = b ∧ s.ok w') ∧ Below W.heap.size W w' := by
  have h := refPutRequest_any k g p ad len cap l W hq
  rw [hr] at h
  exact h
theorem copyRequest_at (k g p : Int) (ad : Option Addr) (len cap : Nat) (l : List Nat) (w : World) (ha : Part.ok w ⟨ad, len, cap, l⟩) (hlen : len ≤ 140737488351232) :
    Calls Tryz.prog 9 #[.agg #[.int .i64 k, .int .i64 g, .int .i64 p, .slice ad len cap]] w fun x w' => ∃ q : Part, x = .returned (.agg #[.int .i64 k, .int .i64 g, .int .i64 p, .slice q.ad q.len q.cap]) ∧ Hid (q.l = l ∧ q.ok w') ∧ Below w.heap.size w w' := by
  refine (copyRequest k g p ad len cap l w ha hlen).mono ?_
  rintro x w' ⟨q, rfl, e1, k1, b1⟩
  exact ⟨q, rfl, (show Hid _ from ⟨e1.out, k1.out⟩), b1⟩
theorem sameRequest_at (k g p : Int) (q q' : Part) (l : List Nat) (w : World) (h1 : q.l = l ∧ q.ok w) (h2 : q'.l = l ∧ q'.ok w) :
    Calls Tryz.prog 20 #[.agg #[.int .i64 k, .int .i64 g, .int .i64 p, .slice q.ad q.len q.cap], .agg #[.int .i64 k, .int .i64 g, .int .i64 p, .slice q'.ad q'.len q'.cap]] w fun x w' => x = .returned (.bool true) ∧ Below w.heap.size w w' :=
  sameRequest_yes k g p q.ad q'.ad q.len q.cap q'.len q'.cap l w (part_is h1) (part_is h2)
set_option maxRecDepth 100000 in
set_option maxHeartbeats 8000000 in
theorem requests_walk (k g p : Int) (ad : Option Addr) (len cap : Nat) (l : List Nat) (ad2 : Option Addr) (len2 cap2 : Nat) (l2 : List Nat) (w : World) (h1 : Part.ok w ⟨ad, len, cap, l⟩) (h2 : Part.ok w ⟨ad2, len2, cap2, l2⟩) (hlc1 : len ≤ cap) (hc1 : cap ≤ 140737488351232) (hlc2 : len2 ≤ cap2) (hc2 : cap2 ≤ 140737488351232) :
    Calls Tryz.prog 8 #[.agg #[.int .i64 k, .int .i64 g, .int .i64 p, .slice ad len cap], .slice ad2 len2 cap2] w fun r w' => r = .returned (.bool true) ∧ Below w.heap.size w w' := by
  obtain ⟨z, b, hr1⟩ : ∃ z b, putReqN k g p l = (z, b) := ⟨_, _, rfl⟩
  obtain ⟨re, rk, rg, rp, rd, hr2⟩ : ∃ re rk rg rp rd, getReqN l2 = ⟨re, rk, rg, rp, rd⟩ := ⟨_, _, _, _, _, rfl⟩
  have hl2 : l2.length = len2 := h2.1
  have HR : Hid (putReqN k g p l = (z, b) ∧ getReqN l2 = ⟨re, rk, rg, rp, rd⟩ ∧ l2.length ≤ 1000000000000000) := (show Hid _ from ⟨hr1, hr2, by omega⟩)
  have HA : Hid (Part.ok w ⟨ad, len, cap, l⟩ ∧ Part.ok w ⟨ad2, len2, cap2, l2⟩) := (show Hid _ from ⟨h1, h2⟩)
  obtain ⟨W0, hW0⟩ : ∃ W0, w.alloc (.cells #[.int .i64 k, .int .i64 g, .int .i64 p, .slice ad len cap] 24) = W0 := ⟨_, rfl⟩
  have B0 : Hid (Below w.heap.size w W0) := (show Hid _ from (by rw [← hW0]; exact (Below.refl _ _).alloc (Nat.le_refl _) _))
  have X0 : Hid (Blk W0 w.heap.size #[.int .i64 k, .int .i64 g, .int .i64 p, .slice ad len cap] 24) := (show Hid _ from (by rw [← hW0]; exact heap_alloc_last w _))
  obtain ⟨c0, c1, c2, c3⟩ := X0.out.four
  clear hr1 hr2 h1 h2
  go_enter Tryz.func8, Tryz.ntmps8
  go_wp2_with (first
    | (go_at_call 9; (with_reducible_and_instances (refine (copyRequest_at k g p ad len cap l W0 (HA.out.1.later B0.out) (by omega)).mono ?_)); rintro x w1 ⟨q1, rfl, Q1, b1⟩; have B1 : Hid (Below w.heap.size w w1) := (show Hid _ from B0.out.trans (b1.mono B0.out.size)); have X1 : Hid (Blk w1 w.heap.size #[.int .i64 k, .int .i64 g, .int .i64 p, .slice ad len cap] 24) := (show Hid _ from X0.out.later b1); clear b1 c0 c1 c2 c3 X0)
    | (go_at_call 10; (with_reducible_and_instances (refine (putRequest_at HR.out.1 w1 q1 Q1.out).mono ?_)); rintro x w2 ⟨q2, rfl, Q2, b2⟩; have B2 : Hid (Below w.heap.size w w2) := (show Hid _ from B1.out.trans (b2.mono B1.out.size)); have X2 : Hid (Blk w2 w.heap.size #[.int .i64 k, .int .i64 g, .int .i64 p, .slice ad len cap] 24) := (show Hid _ from X1.out.later b2); obtain ⟨c0, c1, c2, c3⟩ := X2.out.four; clear b2 X1 B1)
    | (go_at_call 11; (with_reducible_and_instances (refine (refPutRequest_at HR.out.1 w2 ad len cap (HA.out.1.later B2.out)).mono ?_)); rintro x w3 ⟨q3, rfl, Q3, b3⟩; have B3 : Hid (Below w.heap.size w w3) := (show Hid _ from B2.out.trans (b3.mono B2.out.size)); have Q23 : Hid ((q2.l = b ∧ q2.ok w3) ∧ (q3.l = b ∧ q3.ok w3)) := (show Hid _ from ⟨part_la ⟨Q2.out.1, Q2.out.2.1⟩ b3, Q3.out⟩); clear b3 X2 B2 c0 c1 c2 c3 Q2 Q3; have D3 : Hid (Below w3.heap.size w3 (w3.alloc (.cells #[] 5))) := (show Hid _ from (Below.refl _ _).alloc (Nat.le_refl _) _); have s3 : w3.heap.size ≤ (w3.alloc (.cells #[] 5)).heap.size := D3.out.size)
    | (at_builtin; refine app_any rfl _ _ rfl w3.heap.size (.slice (some ⟨w3.heap.size, 0, none⟩) 0 0) 0 [] rfl (empty_own w3 w3.heap.size (Nat.le_refl _)) ad2 len2 cap2 l2 rfl HA.out.2.1 HA.out.2.2.1 ((HA.out.2.later B3.out).later D3.out).2.2 (by omega) s3 ?_; intro v4 w4 hown4 hg4; obtain ⟨q4, rfl, hq4, hc4⟩ := own_partc (L := l2) (n := len2) (by simpa using hown4) HA.out.2.2.2.1 HA.out.2.1; have Q4 : Hid ((q4.l = l2 ∧ q4.ok w4) ∧ q4.len ≤ q4.cap) := (show Hid _ from ⟨hq4, hc4⟩); have D4 : Hid (Below w3.heap.size w3 w4) := (show Hid _ from grown_below D3.out (empty_own w3 w3.heap.size (Nat.le_refl _)) hg4 s3); have B4 : Hid (Below w.heap.size w w4) := (show Hid _ from B3.out.trans (D4.out.mono B3.out.size)); have Q24 : Hid ((q2.l = b ∧ q2.ok w4) ∧ (q3.l = b ∧ q3.ok w4)) := (show Hid _ from ⟨part_la Q23.out.1 D4.out, part_la Q23.out.2 D4.out⟩); clear hown4 hg4 hq4 hc4 D3 D4 s3 B3 Q23)
    | (go_at_call 15; (with_reducible_and_instances (refine (getRequest_at HR.out.2.1 HR.out.2.2 w4 q4 Q4.out.1 Q4.out.2).mono ?_)); rintro x w5 ⟨q5, rfl, Q5, b5⟩; have D5 : Hid (Below w4.heap.size w4 (w5.alloc (.cells #[.int .i64 rk, .int .i64 rg, .int .i64 rp, .slice q5.ad q5.len q5.cap] 27))) := (show Hid _ from b5.alloc b5.size _); have B5 : Hid (Below w.heap.size w (w5.alloc (.cells #[.int .i64 rk, .int .i64 rg, .int .i64 rp, .slice q5.ad q5.len q5.cap] 27))) := (show Hid _ from B4.out.trans (D5.out.mono B4.out.size)); have Q25 : Hid ((q2.l = b ∧ q2.ok (w5.alloc (.cells #[.int .i64 rk, .int .i64 rg, .int .i64 rp, .slice q5.ad q5.len q5.cap] 27))) ∧ (q3.l = b ∧ q3.ok (w5.alloc (.cells #[.int .i64 rk, .int .i64 rg, .int .i64 rp, .slice q5.ad q5.len q5.cap] 27))) ∧ (q5.l = rd ∧ q5.ok (w5.alloc (.cells #[.int .i64 rk, .int .i64 rg, .int .i64 rp, .slice q5.ad q5.len q5.cap] 27)))) := (show Hid _ from ⟨part_la Q24.out.1 D5.out, part_la Q24.out.2 D5.out, part_la Q5.out ((Below.refl _ _).alloc (Nat.le_refl _) _)⟩); have X5 : Hid (Blk (w5.alloc (.cells #[.int .i64 rk, .int .i64 rg, .int .i64 rp, .slice q5.ad q5.len q5.cap] 27)) w5.heap.size #[.int .i64 rk, .int .i64 rg, .int .i64 rp, .slice q5.ad q5.len q5.cap] 27) := (show Hid _ from heap_alloc_last w5 _); clear b5 Q5 Q4 Q24 B4 D5)
    | (go_at_call 16; (with_reducible_and_instances (refine (refGetRequest_at HR.out.2.1 HR.out.2.2 (w5.alloc (.cells #[.int .i64 rk, .int .i64 rg, .int .i64 rp, .slice q5.ad q5.len q5.cap] 27)) ad2 len2 cap2 (HA.out.2.later B5.out) hlc2).mono ?_)); rintro x w6 ⟨q6, rfl, Q6, b6⟩; obtain ⟨W7, hW7⟩ : ∃ W7, w6.alloc (.cells #[.int .i64 rk, .int .i64 rg, .int .i64 rp, .slice q6.ad q6.len q6.cap] 24) = W7 := ⟨_, rfl⟩; have E7 : Hid (Below w6.heap.size w6 W7) := (show Hid _ from (by rw [← hW7]; exact (Below.refl _ _).alloc (Nat.le_refl _) _)); have D7 : Hid (Below (w5.alloc (.cells #[.int .i64 rk, .int .i64 rg, .int .i64 rp, .slice q5.ad q5.len q5.cap] 27)).heap.size (w5.alloc (.cells #[.int .i64 rk, .int .i64 rg, .int .i64 rp, .slice q5.ad q5.len q5.cap] 27)) W7) := (show Hid _ from b6.trans (E7.out.mono b6.size)); have B7 : Hid (Below w.heap.size w W7) := (show Hid _ from B5.out.trans (D7.out.mono B5.out.size)); have X6 : Hid (Blk W7 w6.heap.size #[.int .i64 rk, .int .i64 rg, .int .i64 rp, .slice q6.ad q6.len q6.cap] 24) := (show Hid _ from (by rw [← hW7]; exact heap_alloc_last w6 _)); have X7 : Hid (Blk W7 w5.heap.size #[.int .i64 rk, .int .i64 rg, .int .i64 rp, .slice q5.ad q5.len q5.cap] 27) := (show Hid _ from X5.out.later D7.out); have k2 := conv_part (part_la Q25.out.1 D7.out); have k3 := conv_part (part_la Q25.out.2.1 D7.out); have Q7 : Hid ((q5.l = rd ∧ q5.ok W7) ∧ (q6.l = rd ∧ q6.ok W7)) := (show Hid _ from ⟨part_la Q25.out.2.2 D7.out, part_la Q6.out E7.out⟩); obtain ⟨d0, d1, d2, d3⟩ := X6.out.four; obtain ⟨e0, e1, e2, e3⟩ := X7.out.four; generalize bstr b = tx at *; clear b6 Q6 Q25 B5 D7 E7 X5 X6 X7)
    | (go_at_call 19; refine (num5_any _ _).mono ?_; rintro x w' ⟨rfl, hw'⟩; obtain rfl := hw'.symm)
    | (go_at_call 20; (with_reducible_and_instances (refine (sameRequest_at rk rg rp q5 q6 rd W7 Q7.out.1 Q7.out.2).mono ?_)); rintro x w8 ⟨rfl, b8⟩; have B8 : Hid (Below w.heap.size w w8) := (show Hid _ from B7.out.trans (b8.mono B7.out.size)); clear b8)
    | (go_at_call 23; (with_reducible_and_instances (refine (knows5 w8).mono ?_)); rintro x w9 ⟨rfl, b9⟩; have B9 : Hid (Below w.heap.size w w9) := (show Hid _ from B8.out.trans (b9.mono B8.out.size)); clear b9))
  go_ret
  exact ⟨rfl, B9.out⟩
end Go.Proofs.YtjldflfoncfndaaGreat
