/- What happened of the statements of layer 20 keeps in memory: calls, and a log; appends of one element. -/
import Derived.Test.YtpjemifoilbjeaaHOwn
import Derived.Test.YtpjemifoilbjeaaHHapM
import Derived.Laws.BytesArg
namespace Go.Proofs.Ytpjemifoilbjeaa
open Go.RowKit Hy
variable {w w' W : World}

abbrev kAc : Kd Ac := ⟨45, 39, 4, 24, fun a => [.bool a.rd, .bool a.hd, .int .i64 a.ah, .int .i64 a.be], ⟨false, false, 0, 0⟩, .agg #[.bool false, .bool false, .int .i64 0, .int .i64 0]⟩
theorem kAc_ok : kAc.ok := ⟨⟨fun _ => rfl, by decide⟩, fun a v hv => by
  have : v = .bool a.rd ∨ v = .bool a.hd ∨ v = .int .i64 a.ah ∨ v = .int .i64 a.be := by simpa using hv
  rcases this with rfl | rfl | rfl | rfl <;> rfl, by kernel_rfl, rfl, Try.underlying39⟩
/-- What happened's loop keeps: the calls, and the log. -/
structure St (W : World) (base : Nat) (v : Value) (A : List HcA) (lv : Value) (L : List Nm) : Prop where
  cs : CS kR W base v A
  lg : OwnK kS W base lv L
  apart : ∀ i, i < A.length → ∀ g, (A.getD i hz0).2.v.ownBlock = some g → lv.ownBlock ≠ some g
theorem St.later {base : Nat} {v lv : Value} {A : List HcA} {L : List Nm} (h : St W base v A lv L) (hb : RowKit.Below W.heap.size W w') : St w' base v A lv L := ⟨h.cs.later hb, h.lg.later hb, h.apart⟩
theorem St.log {base : Nat} {v lv lv' : Value} {A : List HcA} {L L' : List Nm} (h : St W base v A lv L) (hG : W.grownBy w' lv.ownBlock) (hO : OwnK kS w' base lv' L') (hn : ∀ g, lv'.ownBlock = some g → lv.ownBlock = some g ∨ W.heap.size ≤ g) : St w' base v A lv' L' := by
  refine ⟨⟨h.cs.row.keep (fun g hg => hG.block g (h.cs.row.block g hg).2.1 (fun e => own_ne (by decide) h.cs.row h.lg g hg e.symm)), fun i hi => (h.cs.part i hi).keep (fun g hg => hG.block g ((h.cs.part i hi).block g hg).2.1 (fun e => h.apart i hi g hg e.symm)), h.cs.small⟩, hO, fun i hi g hg e => ?_⟩
  rcases hn g e with h1 | h1
  · exact h.apart i hi g hg h1
  · have := ((h.cs.part i hi).block g hg).2.1
    omega
theorem St.more {base : Nat} {v v5 lv : Value} {A : List HcA} {L : List Nm} {y : HcA} (h : St W base v A lv L) (hy : OwnK kS W base y.2.v y.1.vals) (ha : ∀ g, y.2.v.ownBlock = some g → lv.ownBlock ≠ some g) (hs : Small y.1) (hG : W.grownBy w' v.ownBlock) (h5 : OwnK kR w' base v5 (A ++ [y])) : St w' base v5 (A ++ [y]) lv L := by
  refine ⟨h.cs.more (by decide) hy hs hG h5, h.lg.keep (fun g hg => hG.block g (h.lg.block g hg).2.1 (fun e => own_ne (by decide) h.lg h.cs.row g hg e.symm)), fun i hi g hg => ?_⟩
  by_cases e : i < A.length
  · rw [getD_left _ _ _ _ e] at hg
    exact h.apart i e g hg
  · have e0 : i = A.length := by rw [List.length_append] at hi; simp at hi; omega
    rw [getD_last _ _ _ _ e0] at hg
    exact ha g hg
theorem conv2 (W : World) (i : Nat) (hi : i < 200) (n : Nat) (hn : n = W.heap.size) : (convert 68 9 (.slice (some ⟨n, 0, none⟩) 2 2)).run Try.prog (W.alloc (.cells #[.int .u8 (97 + (i : Int) % 26), .int .u8 (97 + (i : Int) / 26)] 5)) = .ok (.string (nmS (nmI i))) (W.alloc (.cells #[.int .u8 (97 + (i : Int) % 26), .int .u8 (97 + (i : Int) / 26)] 5)) := by
  subst hn
  have hB : Blk (W.alloc (.cells #[.int .u8 (97 + (i : Int) % 26), .int .u8 (97 + (i : Int) / 26)] 5)) W.heap.size _ _ := heap_alloc_new W _
  have h := run_convert_bytes_arg (P := Try.prog) (W.alloc (.cells #[.int .u8 (97 + (i : Int) % 26), .int .u8 (97 + (i : Int) / 26)] 5)) 68 5 Try.underlying68 Try.underlying5 W.heap.size 0 2 2 [97 + (i : Int) % 26, 97 + (i : Int) / 26] rfl (fun k hk => by
    rcases (show k = 0 ∨ k = 1 by omega) with rfl | rfl
    · exact hB.cell 0
    · exact hB.cell 1) 9 Try.underlying9
  rw [h]
  have e : strOfNums [97 + (i : Int) % 26, 97 + (i : Int) / 26] = nmS (nmI i) := by
    unfold strOfNums nmS nmI
    have e1 : (97 + (i : Int) % 26).toNat = 97 + i % 26 := by omega
    have e2 : (97 + (i : Int) / 26).toNat = 97 + i / 26 := by omega
    simp only [List.map_cons, List.map_nil, e1, e2]
  rw [e]
/-- Its blocks. -/
def St.In (v : Value) (A : List HcA) (lv : Value) (g : Nat) : Prop := v.ownBlock = some g ∨ (∃ i, i < A.length ∧ (A.getD i hz0).2.v.ownBlock = some g) ∨ lv.ownBlock = some g
theorem St.lt {base : Nat} {v lv : Value} {A : List HcA} {L : List Nm} (h : St W base v A lv L) {g : Nat} (hg : St.In v A lv g) : g < W.heap.size := by
  rcases hg with hg | ⟨i, hi, hg⟩ | hg
  · exact (h.cs.row.block g hg).2.1
  · exact ((h.cs.part i hi).block g hg).2.1
  · exact (h.lg.block g hg).2.1
theorem St.ge {base : Nat} {v lv : Value} {A : List HcA} {L : List Nm} (h : St W base v A lv L) {g : Nat} (hg : St.In v A lv g) : base ≤ g := by
  rcases hg with hg | ⟨i, hi, hg⟩ | hg
  · exact (h.cs.row.block g hg).1
  · exact ((h.cs.part i hi).block g hg).1
  · exact (h.lg.block g hg).1
theorem St.keepAll {base : Nat} {v lv : Value} {A : List HcA} {L : List Nm} (h : St W base v A lv L) (hk : ∀ g, St.In v A lv g → w'.heap[g]? = W.heap[g]?) : St w' base v A lv L :=
  ⟨⟨h.cs.row.keep (fun g hg => hk g (Or.inl hg)), fun i hi => (h.cs.part i hi).keep (fun g hg => hk g (Or.inr (Or.inl ⟨i, hi, hg⟩))), h.cs.small⟩, h.lg.keep (fun g hg => hk g (Or.inr (Or.inr hg))), h.apart⟩
/-- 'append(v, x)', v of one's own, x a new element; where the answer lies. -/
theorem app_oneK {α : Type} {K : Kd α} (hK : K.ok) {ops : Array Oper} {rest : List Oper} {o : Oper} {a : Act} {Q : Exit → Act → World → Prop} (hgd : o.guard = none) (s x : Operand)
    (ho : o.op = .call { callee := .builtin .append, args := #[s, x], argTypes := #[K.S, K.S] })
    (base : Nat) (v : Value) (L : List α) (hs : a.eval s = v) (hown : OwnK K W base v L)
    (g0 : Nat) (y : α) (hx : a.eval x = .slice (some ⟨g0, 0, none⟩) 1 1) (hob : RowK K W (some ⟨g0, 0, none⟩) [y])
    (hlen : L.length + 1 ≤ maxLen) (hbytes : (L.length + 1) * K.bytes ≤ 140737488355328) (hbase : base ≤ W.heap.size)
    (h : ∀ g cap w', OwnK K w' base (.slice (some ⟨g, 0, none⟩) (L.length + 1) cap) (L ++ [y]) → W.grownBy w' v.ownBlock → (v.ownBlock = some g ∨ g = W.heap.size) → wpList Try.prog ops Q rest (a.put o.dst (.slice (some ⟨g, 0, none⟩) (L.length + 1) cap)) w') : wpList Try.prog ops Q (o :: rest) a W := by
  obtain ⟨i0, hi, hz0, hz1, hz2⟩ := info_parts hK.info
  refine wpList_append_lies W hgd s x K.S ho base K.T i0 _ K.sz K.bytes hK.und hi hz0 hz1 hz2 hK.zsz hK.pos v L.length _ hs hown ⟨g0, 0, none⟩ 1 1 (K.Vs [y]) hx (by rw [hK.tofit.Vs_len]; rfl) (hob.cells hK.tofit _ rfl) (hK.Vs_ones _) (by omega) hlen hbytes hbase W.heap.size rfl ?_
  intro g cap w' h1 h2 h3 _
  rw [← Kd.Vs_append] at h1
  refine h g cap w' ?_ h2 h3
  unfold OwnK
  rw [List.length_append]
  exact h1
theorem str_row (Y : World) (nm : Nm) (ns : ByteArray) (h : nmS nm = ns) (n : Nat) (hn : n = Y.heap.size) : RowK kS (Y.alloc (.cells #[.string ns] 9)) (some ⟨n, 0, none⟩) [nm] := by
  subst h hn
  refine Or.inr ⟨_, 0, rfl, by simp, fun i hi c hc => ?_⟩
  obtain rfl : i = 0 := by simp at hi; omega
  have hb : Blk (Y.alloc (.cells #[.string (nmS nm)] 9)) Y.heap.size _ _ := heap_alloc_new Y _
  have : kS.sz = 1 := rfl
  obtain rfl : c = 0 := by omega
  rw [Nat.zero_mul, Nat.zero_add, hb.cell 0]
  rfl
theorem call_rowR (Y : World) (x : HcA) (ns : ByteArray) (h : nmS x.1.val = ns) (n : Nat) (hn : n = Y.heap.size) : RowK kR (Y.alloc (.cells #[.bool x.1.rd, .bool x.1.dn, .int .i64 x.1.bg, .int .i64 x.1.en, .int .i64 x.1.off, .string ns, .slice x.2.ad x.2.m x.2.c] 35)) (some ⟨n, 0, none⟩) [x] := by
  subst hn
  exact call_row Y x ns h _ kR rfl (fun _ => rfl)
theorem emptyK_at {α : Type} (K : Kd α) (W : World) (n : Nat) (hn : n = W.heap.size) : OwnK K (W.alloc (.cells #[] K.T)) n (.slice (some ⟨n, 0, none⟩) 0 0) [] := by
  subst hn
  exact emptyK_own K W
/-- A block that was there stays, where it is none that an append may have grown. -/
theorem Blk.grown {B : Nat} {cs : Array Value} {T : TypeId} {r : Option Nat} (h : Blk W B cs T) (hG : W.grownBy w' r) (hn : r ≠ some B) : Blk w' B cs T := (hG.block B h.lt (fun e => hn e.symm)).trans h
end Go.Proofs.Ytpjemifoilbjeaa
