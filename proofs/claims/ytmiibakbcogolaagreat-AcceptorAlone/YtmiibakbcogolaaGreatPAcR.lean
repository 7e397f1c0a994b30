/- What an acceptor knows, as plain data and as a value; the rules of package acceptor. accept, learn and answer of what an acceptor knows. Two things that an acceptor knows, held against each other. -/
import Derived.Test.YtmiibakbcogolaaGreatAcBox
import Derived.Test.YtmiibakbcogolaaGreatPAcT
import Derived.Test.YtmiibakbcogolaaGreatSSmall
import Derived.Test.YtmiibakbcogolaaGreatStr
import Derived.Laws.StructEq
namespace Go.Proofs.YtmiibakbcogolaaGreat.Ac
open Go.RowKit Crcm

/-- What is known of a key and a version. -/
structure Kn where
  p : Nat
  b : Nat
  s : Bool
  v : List Nat
def kn0 : Kn := ⟨0, 0, false, []⟩
def knV (k : Kn) : Value := .agg #[.int .i64 (k.p : Int), .int .i64 (k.b : Int), .bool k.s, .string (bstr k.v)]
structure Kn.ok (k : Kn) : Prop where
  p : k.p < 281474976710656
  b : k.b < 281474976710656
  len : k.v.length ≤ 4000
  lt : ∀ x ∈ k.v, x < 256
theorem kn0_ok : kn0.ok := ⟨by simp [kn0], by simp [kn0], by simp [kn0], by simp [kn0]⟩
/-- P803: what comes of an Ask: E, and what is known then. -/
def prepN (k : Kn) (b : Nat) : Nat × Kn := if b ≤ k.p then (34, k) else (0, { k with p := b })
def accN (k : Kn) (b : Nat) (v : List Nat) : Nat × Kn := if b < k.p ∨ (k.s = true ∧ k.v ≠ v) then (34, k) else if k.s = true then (0, k) else (0, ⟨b, b, false, v⟩)
def learnN (k : Kn) (v : List Nat) : Nat × Kn := if k.s = true then (0, k) else (0, ⟨k.p, max k.b 1, true, v⟩)
def knC (k : Kn) : Array Value := #[.int .i64 (k.p : Int), .int .i64 (k.b : Int), .bool k.s, .string (bstr k.v)]
theorem ret_kn {fn : Func} {p u : Tmp} (h : fn.results = #[.cell p 113, .tmp u]) (tmps : Array Value) (w : World) (B : Nat) (a b c d : Value)
    (hp : tmps.getD p undef = .pointer (some ⟨B, 0, none⟩)) (hg : Blk w B #[a, b, c, d] 113) :
    (results fn tmps).run Tryz.prog w = .ok (.tuple #[.agg #[a, b, c, d], tmps.getD u undef]) w := by
  rw [results_cell_tmp h, hp]
  have hl := run_loadVar_row (P := Tryz.prog) w B 113 113 _ (0, 0) _ hg Tryz.underlying113 rfl (by kernel_rfl)
  simp only [asAddr, Sem.run_pure, Result.andThen_ok]
  rw [hl]
  rfl
/-- Three boxes of the rule's own. -/
theorem below3 (w : World) (a b c : Obj) : Below w.heap.size w (((w.alloc a).alloc b).alloc c) := (((Below.refl _ w).alloc (Nat.le_refl _) _).alloc (by simp) _).alloc (by simp; omega) _
theorem last3 (w : World) (a b : Obj) (cs : Array Value) (T : TypeId) : Blk (((w.alloc a).alloc b).alloc (.cells cs T)) (w.heap.size + 1 + 1) cs T := by
  rw [show w.heap.size + 1 + 1 = ((w.alloc a).alloc b).heap.size by simp]
  exact heap_alloc_last _ _
set_option maxRecDepth 100000 in
set_option maxHeartbeats 1000000 in
theorem query_any (kn : Kn) (k g v b : Int) (ad : Option Addr) (len cap : Nat) (w : World) :
    Calls Tryz.prog 95 #[knV kn, askV k g v b ad len cap] w fun x w' => x = .returned (.tuple #[knV kn, .int .i64 0]) ∧ Below w.heap.size w w' := by
  obtain ⟨kp, kb, ks, kv⟩ := kn
  unfold knV askV
  simp only
  generalize bstr kv = str
  go_enter Tryz.func95, Tryz.ntmps95
  go_wp2
  refine bodyPost_ret (ret_kn Tryz.results95 _ _ (w.heap.size + 1 + 1) _ _ _ _ rfl (last3 _ _ _ _ _)) rfl ⟨rfl, below3 _ _ _ _⟩
set_option maxRecDepth 100000 in
set_option maxHeartbeats 1000000 in
theorem prepare_any (kn : Kn) (k g v : Int) (b : Nat) (ad : Option Addr) (len cap : Nat) (w : World) :
    Calls Tryz.prog 92 #[knV kn, askV k g v b ad len cap] w fun x w' => x = .returned (.tuple #[knV (prepN kn b).2, .int .i64 ((prepN kn b).1 : Nat)]) ∧ Below w.heap.size w w' := by
  obtain ⟨kp, kb, ks, kv⟩ := kn
  unfold prepN
  by_cases h : b ≤ kp
  · rw [if_pos h]
    unfold knV askV
    simp only
    generalize bstr kv = str
    have hd : decide ((b : Int) ≤ (kp : Int)) = true := by simp; omega
    go_enter Tryz.func92, Tryz.ntmps92
    go_wp2
    refine bodyPost_ret (ret_kn Tryz.results92 _ _ (w.heap.size + 1 + 1) _ _ _ _ rfl (last3 _ _ _ _ _)) rfl ⟨rfl, below3 _ _ _ _⟩
  · rw [if_neg h]
    unfold knV askV
    simp only
    generalize bstr kv = str
    have hd : decide ((b : Int) ≤ (kp : Int)) = false := by simp; omega
    go_enter Tryz.func92, Tryz.ntmps92
    go_wp2
    refine bodyPost_ret (ret_kn Tryz.results92 _ _ (w.heap.size + 1 + 1) _ _ _ _ rfl (last3 _ _ _ _ _)) rfl ⟨rfl, below3 _ _ _ _⟩
end Go.Proofs.YtmiibakbcogolaaGreat.Ac
namespace Go.Proofs.YtmiibakbcogolaaGreat.Ac
open Go.RowKit Crcm

theorem bstr_ne {l m : List Nat} (hl : ∀ x ∈ l, x < 256) (hm : ∀ x ∈ m, x < 256) (h : l ≠ m) : ((bstr l).toList == (bstr m).toList) = false ∧ (bstr l == bstr m) = false := by
  have h1 : bstr l ≠ bstr m := fun e => h (bstr_inj hl hm e)
  have h2 : (bstr l == bstr m) = false := by
    cases hh : (bstr l == bstr m) with
    | false => rfl
    | true => rw [MapKept.bytes_beq] at hh; exact absurd hh h1
  exact ⟨by rw [← beq_toListBytes]; exact h2, h2⟩
/-- '[]byte(s)', with the block that it lies in. -/
theorem conv_string2 (s : ByteArray) (w : World) :
    ∃ (Q : Part) (w' : World), (convert 9 22 (.string s)).run Tryz.prog w = .ok (.slice Q.ad Q.len Q.cap) w' ∧ Hid (Q.l = sbytes s ∧ Q.ok w') ∧ Below w.heap.size w w' ∧ ∀ b off, Q.ad = some ⟨b, off, none⟩ → w.heap.size ≤ b := by
  refine ⟨⟨some ⟨w.heap.size, 0, none⟩, s.size, grownCap w s.size 0 5, sbytes s⟩, _, run_bytes_of_string w 9 22 5 s Tryz.underlying9 Tryz.underlying22 Tryz.underlying5, ⟨rfl, sbytes_length s, fun e => (by cases e), sbytes_lt s, ?_⟩, ?_, fun b off e => (by injection e with e; injection e with e; omega)⟩
  · right
    refine ⟨w.heap.size, 0, rfl, by simp, ?_⟩
    intro i hi
    have hi' : i < s.size := by rw [← sbytes_length]; exact hi
    have hd : i < s.data.size := hi'
    have hsl : i < (sbytes s).length := hi
    rw [cell_of_row _ w.heap.size _ _ 5 _ (heap_alloc_new w.drew _)]
    rw [bytesRow, Nat.zero_add, Array.getElem?_append_left (by simpa using hd), List.getD_eq_getElem?_getD, List.getElem?_eq_getElem hsl]
    simp [sbytes]
    exact ⟨_, Array.getElem?_eq_getElem hd, rfl⟩
  · exact ((Below.refl _ _).drew).alloc (Nat.le_refl _) _
theorem ret_ans1 {fn : Func} {p : Tmp} (h : fn.results = #[.cell p 36]) (tmps : Array Value) (w : World) (B : Nat) (e v q b : Int) (s : Bool) (ad : Option Addr) (len cap : Nat)
    (hp : tmps.getD p undef = .pointer (some ⟨B, 0, none⟩)) (hg : Blk w B #[.int .i64 e, .int .i64 v, .int .i64 q, .int .i64 b, .bool s, .slice ad len cap] 36) :
    (results fn tmps).run Tryz.prog w = .ok (ansV e v q b s ad len cap) w := by
  have hl := run_loadVar_row (P := Tryz.prog) w B 36 36 _ (0, 0) _ hg Tryz.underlying36 rfl (by kernel_rfl)
  have hp' : tmps[p]?.getD undef = .pointer (some ⟨B, 0, none⟩) := by rw [← hp]; simp
  simp [results, h, asAddr, hp', hl, ansV]
set_option maxRecDepth 100000 in
set_option maxHeartbeats 2000000 in
theorem accept_any (kn : Kn) (hk : kn.ok) (k g v : Int) (b : Nat) (ad : Option Addr) (len cap : Nat) (l : List Nat) (w : World) (hp : Part.ok w ⟨ad, len, cap, l⟩) :
    Calls Tryz.prog 93 #[knV kn, askV k g v b ad len cap] w fun x w' => x = .returned (.tuple #[knV (accN kn b l).2, .int .i64 ((accN kn b l).1 : Nat)]) ∧ Below w.heap.size w w' := by
  obtain ⟨kp, kb, ks, kv⟩ := kn
  have hlt := hk.lt
  have hl8 := hp.2.2.1
  have kc := fun o1 o2 o3 => conv_any (hp.later (below3 w o1 o2 o3)).2.2 len cap hp.1
  simp only at hlt hl8 kc
  clear hp hk
  unfold accN
  by_cases h : b < kp
  · rw [if_pos (Or.inl h)]
    unfold knV askV
    simp only
    clear kc
    generalize bstr kv = str
    have hd : decide ((b : Int) < (kp : Int)) = true := by simp; omega
    go_enter Tryz.func93, Tryz.ntmps93
    go_wp2
    refine bodyPost_ret (ret_kn Tryz.results93 _ _ (w.heap.size + 1 + 1) _ _ _ _ rfl (last3 _ _ _ _ _)) rfl ⟨rfl, below3 _ _ _ _⟩
  have hd : decide ((b : Int) < (kp : Int)) = false := by simp; omega
  cases ks with
  | true =>
    by_cases hv : kv = l
    · subst hv
      rw [if_neg (by simp [h]), if_pos rfl]
      unfold knV askV
      simp only
      generalize bstr kv = str at *
      have hs : (str.toList == str.toList) = true := by simp

      go_enter Tryz.func93, Tryz.ntmps93
      go_wp2
      refine bodyPost_ret (ret_kn Tryz.results93 _ _ (w.heap.size + 1 + 1) _ _ _ _ rfl (last3 _ _ _ _ _)) rfl ⟨rfl, below3 _ _ _ _⟩
    · rw [if_pos (Or.inr ⟨rfl, hv⟩)]
      obtain ⟨n1, n2⟩ := bstr_ne hlt hl8 hv
      unfold knV askV
      simp only
      generalize bstr kv = str at *
      generalize bstr l = str2 at *

      go_enter Tryz.func93, Tryz.ntmps93
      go_wp2
      refine bodyPost_ret (ret_kn Tryz.results93 _ _ (w.heap.size + 1 + 1) _ _ _ _ rfl (last3 _ _ _ _ _)) rfl ⟨rfl, below3 _ _ _ _⟩
  | false =>
    rw [if_neg (by simp [h]), if_neg (by simp)]
    unfold knV askV
    simp only
    generalize bstr kv = str at *
    generalize bstr l = str2 at *

    go_enter Tryz.func93, Tryz.ntmps93
    go_wp2
    refine bodyPost_ret (ret_kn Tryz.results93 _ _ (w.heap.size + 1 + 1) _ _ _ _ rfl (last3 _ _ _ _ _)) rfl ⟨rfl, below3 _ _ _ _⟩
set_option maxRecDepth 100000 in
set_option maxHeartbeats 2000000 in
theorem answer_any (kn : Kn) (hk : kn.ok) (v : Int) (w : World) :
    Calls Tryz.prog 64 #[knV kn, .int .i64 v] w fun x w' => ∃ q : Part, x = .returned (ansV 0 v (kn.p : Int) (kn.b : Int) kn.s q.ad q.len q.cap) ∧ Hid (q.l = kn.v ∧ q.ok w') ∧ q.len ≤ 4000 ∧ Below w.heap.size w w' := by
  obtain ⟨kp, kb, ks, kv⟩ := kn
  have hl := hk.len
  have h8 := hk.lt
  simp only at hl h8
  unfold knV
  simp only
  obtain ⟨Q, W3, hrun, HQ, hb, hq⟩ := conv_string2 (bstr kv) ((w.alloc (.cells #[.int .i64 (kp : Int), .int .i64 (kb : Int), .bool ks, .string (bstr kv)] 113)).alloc (.cells #[.int .i64 0, .int .i64 0, .int .i64 0, .int .i64 0, .bool false, .slice none 0 0] 36))
  have HQ2 : Hid (Q.l = kv ∧ Q.ok W3) := hid ⟨by rw [HQ.out.1, sbytes_bstr kv h8], HQ.out.2⟩
  have hql : Q.len ≤ 4000 := by have e := HQ.out.2.1; rw [HQ.out.1, sbytes_bstr kv h8] at e; omega
  have hs2 : ((w.alloc (.cells #[.int .i64 (kp : Int), .int .i64 (kb : Int), .bool ks, .string (bstr kv)] 113)).alloc (.cells #[.int .i64 0, .int .i64 0, .int .i64 0, .int .i64 0, .bool false, .slice none 0 0] 36)).heap.size = w.heap.size + 2 := by simp
  have X : Hid (Blk W3 (w.heap.size + 1) #[.int .i64 0, .int .i64 0, .int .i64 0, .int .i64 0, .bool false, .slice none 0 0] 36) := hid (blk_below (N := w.heap.size + 2) (by rw [show w.heap.size + 1 = (w.alloc (.cells #[.int .i64 (kp : Int), .int .i64 (kb : Int), .bool ks, .string (bstr kv)] 113)).heap.size by simp]; exact heap_alloc_last _ _) (hs2 ▸ hb) (by omega))
  have hnew : ∀ b off, Q.ad = some ⟨b, off, none⟩ → b ≠ w.heap.size + 1 := fun b off e => by have := hq b off e; omega
  have HB : Hid (Below w.heap.size w W3) := hid (((Below.refl _ w).alloc (Nat.le_refl _) _ |>.alloc (by simp) _).trans (hb.mono (by simp; omega)))
  obtain ⟨⟨c0, c1, c2, c3, c4, c5⟩, f0, f1, f2, f3, f4, f5⟩ := blk6 X.out
  clear hs2 hb HQ hl h8 hk hq
  generalize bstr kv = str at *
  go_enter Tryz.func64, Tryz.ntmps64
  go_wp2
  refine bodyPost_ret (ret_ans1 Tryz.results64 _ _ (w.heap.size + 1) 0 v _ _ _ _ _ _ rfl (blk_set6 X.out _ _ _ _ _ _)) rfl ⟨Q, rfl, hid ⟨HQ2.out.1, part_set6 HQ2.out.2 hnew⟩, hql, ?_⟩
  exact set6_below HB.out (by omega) _ _ _ _ _ _
end Go.Proofs.YtmiibakbcogolaaGreat.Ac
namespace Go.Proofs.YtmiibakbcogolaaGreat.Ac
open Go.RowKit

abbrev TKn : TypeId := 113
set_option maxRecDepth 100000 in
theorem kn_fields : Tryz.prog.underlying TKn = some (.struct (Tryz.prog.fieldsOf TKn)) := by simp [Program.fieldsOf, Tryz.underlying113]
theorem kn_held : Tryz.prog.stoodInHeld TKn = false := by kernel_rfl
set_option maxRecDepth 100000 in
set_option maxHeartbeats 1000000 in
theorem kn_eql (a b : Kn) (ha : a.ok) (hb : b.ok) (q : Bool) (hq : q = true ↔ a = b) (W : World) : (binOp .eql TKn (.agg #[.int .i64 (a.p : Int), .int .i64 (a.b : Int), .bool a.s, .string (bstr a.v)]) (.agg #[.int .i64 (b.p : Int), .int .i64 (b.b : Int), .bool b.s, .string (bstr b.v)])).run Tryz.prog W = .ok (.bool q) W := by
  have hs : ((bstr a.v).toList == (bstr b.v).toList) = decide (a.v = b.v) := by
    by_cases h : a.v = b.v
    · rw [h]; simp
    · rw [(bstr_ne ha.lt hb.lt h).1]; simp [h]
  obtain ⟨ap, ab, asl, av⟩ := a
  obtain ⟨bp, bb, bsl, bw⟩ := b
  simp only [Kn.mk.injEq] at hq hs ⊢
  rw [run_eql_struct, show (10000 : Nat) = 9999 + 1 from rfl, run_equalIn_struct _ _ _ _ _ kn_fields kn_held]
  simp only [Program.fieldsOf, Tryz.underlying113]
  generalize bstr av = sa at *
  generalize bstr bw = sb at *
  by_cases h1 : ap = bp <;> by_cases h2 : ab = bb <;> by_cases h3 : asl = bsl <;> by_cases h4 : av = bw <;>
    (simp [h1, h2, h3, h4] at hq hs; simp [Op.eqFields, go_sem, h1, h2, h3, hs, hq, Tryz.underlying3, Tryz.underlying4, Tryz.underlying9]; try omega)
end Go.Proofs.YtmiibakbcogolaaGreat.Ac
