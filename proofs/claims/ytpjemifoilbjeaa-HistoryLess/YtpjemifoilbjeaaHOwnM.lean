/- Calls of one's own, each with its values in a row of its own; appends whatever the kind. -/
import Derived.Test.YtpjemifoilbjeaaHKnows
import Derived.Deep.RegionHeld3
import Derived.OrdersHeld
namespace Go.Proofs.Ytpjemifoilbjeaa
open Go.RowKit Hy
variable {w w' W : World}

/-- The document's calls. -/
abbrev kR : Kd HcA := ⟨35, 22, 7, 72, fun x => [.bool x.1.rd, .bool x.1.dn, .int .i64 x.1.bg, .int .i64 x.1.en, .int .i64 x.1.off, .string (nmS x.1.val), .slice x.2.ad x.2.m x.2.c], (hc0, sl0), .agg #[.bool false, .bool false, .int .i64 0, .int .i64 0, .int .i64 0, .string ⟨#[]⟩, .slice none 0 0]⟩
theorem kR_ok : kR.ok := ⟨⟨fun _ => rfl, by decide⟩, fun a v hv => by
  have : v = .bool a.1.rd ∨ v = .bool a.1.dn ∨ v = .int .i64 a.1.bg ∨ v = .int .i64 a.1.en ∨ v = .int .i64 a.1.off ∨ v = .string (nmS a.1.val) ∨ v = .slice a.2.ad a.2.m a.2.c := by simpa using hv
  rcases this with rfl | rfl | rfl | rfl | rfl | rfl | rfl <;> rfl, by kernel_rfl, rfl, Try.underlying22⟩
/-- The cells of a call, whichever kind. -/
theorem HV.atR {A : List HcA} {ad : Option Addr} {m c : Nat} (h : HV kR w A ad m c) {i : Nat} (hi : i < m) : ∃ b off, ad = some ⟨b, off, none⟩ ∧ b < w.heap.size ∧ w.cell? ⟨b, off + i * 7, none⟩ = some (.bool (A.getD i hz0).1.rd) ∧ w.cell? ⟨b, off + i * 7 + 1, none⟩ = some (.bool (A.getD i hz0).1.dn) ∧ w.cell? ⟨b, off + i * 7 + 2, none⟩ = some (.int .i64 (A.getD i hz0).1.bg) ∧ w.cell? ⟨b, off + i * 7 + 3, none⟩ = some (.int .i64 (A.getD i hz0).1.en) ∧ w.cell? ⟨b, off + i * 7 + 4, none⟩ = some (.int .i64 (A.getD i hz0).1.off) ∧ w.cell? ⟨b, off + i * 7 + 5, none⟩ = some (.string (nmS (A.getD i hz0).1.val)) ∧ w.cell? ⟨b, off + i * 7 + 6, none⟩ = some (.slice (A.getD i hz0).2.ad (A.getD i hz0).2.m (A.getD i hz0).2.c) := by
  obtain ⟨b, off, e, hb, hc⟩ := h.row.cells (by omega)
  exact ⟨b, off, e, hb, hc i hi 0 (by decide), hc i hi 1 (by decide), hc i hi 2 (by decide), hc i hi 3 (by decide), hc i hi 4 (by decide), hc i hi 5 (by decide), hc i hi 6 (by decide)⟩
variable {α : Type} {K : Kd α}
theorem emptyK_own (K : Kd α) (W : World) : OwnK K (W.alloc (.cells #[] K.T)) W.heap.size (.slice (some ⟨W.heap.size, 0, none⟩) 0 0) [] :=
  ⟨by simp [Kd.Vs], Or.inr ⟨W.heap.size, 0, #[], rfl, Nat.le_refl _, heap_alloc_new W _, Nat.le_refl _, by unfold maxLen; omega, by simp, by simp [Kd.Vs]⟩⟩
theorem emptyK_drew (K : Kd α) (W : World) : OwnK K (W.alloc (.cells #[] K.T)).drew W.heap.size (.slice (some ⟨W.heap.size, 0, none⟩) 0 0) [] := emptyK_own K W
theorem own_stepK {W W3 : World} {v : Value} (h : OwnK K (W.alloc (.cells #[] K.T)).drew W.heap.size v []) (hg : ((W.alloc (.cells #[] K.T)).drew).grownBy W3 v.ownBlock) : RowKit.Below W.heap.size W W3 := by
  refine (((Below.refl _ W).alloc (Nat.le_refl _) (.cells #[] K.T)).drew).grown hg (by simp [World.drew]) (fun k hk => (h.block k hk).1)
theorem call_row (Y : World) (x : HcA) (ns : ByteArray) (h : nmS x.1.val = ns) (T : TypeId) (K : Kd HcA) (hsz : K.sz = 7) (hV : ∀ x, K.V x = kC.V x) : RowK K (Y.alloc (.cells #[.bool x.1.rd, .bool x.1.dn, .int .i64 x.1.bg, .int .i64 x.1.en, .int .i64 x.1.off, .string ns, .slice x.2.ad x.2.m x.2.c] T)) (some ⟨Y.heap.size, 0, none⟩) [x] := by
  subst h
  refine Or.inr ⟨_, 0, rfl, by simp, fun i hi c hc => ?_⟩
  obtain rfl : i = 0 := by simp at hi; omega
  have hb : Blk (Y.alloc (.cells #[.bool x.1.rd, .bool x.1.dn, .int .i64 x.1.bg, .int .i64 x.1.en, .int .i64 x.1.off, .string (nmS x.1.val), .slice x.2.ad x.2.m x.2.c] T)) Y.heap.size _ _ := heap_alloc_new Y _
  rw [Nat.zero_mul, Nat.zero_add, hb.cell c, hV]
  rw [hsz] at hc
  rcases (show c = 0 ∨ c = 1 ∨ c = 2 ∨ c = 3 ∨ c = 4 ∨ c = 5 ∨ c = 6 by omega) with rfl | rfl | rfl | rfl | rfl | rfl | rfl <;> rfl
theorem run_app_none {t ty e : TypeId} {i0 : TypeInfo} {size n c base : Nat} {v : Value} {xs : List Value} {x : Addr} (ht : Try.prog.underlying t = some (.slice e)) (hi : Try.prog.info? e = some i0) (hown : w.ownsRow base e size v n xs) : (Builtin.append_ #[t, t] ty #[v, .slice (some x) 0 c]).run Try.prog w = .ok v w := by
  have hfc := run_firstCells_some (P := Try.prog) w i0.size 0 x 0 c [] (by simp) (fun j u hu => by simp at hu)
  rcases hown.2 with ⟨rfl, rfl⟩ | ⟨g, cap, cur, rfl, _, _, hnc, _⟩
  · simp [Builtin.append_, run_underlying ht, sizeOf, typeInfo, hi, Builtin.lenOf, hfc]
  · simp [Builtin.append_, run_underlying ht, sizeOf, typeInfo, hi, Builtin.lenOf, hfc, hnc, storeCells]
/-- 'append(v, x...)', v of the call's own, x anywhere, as one step of a region that draws its order. -/
theorem step_app_argK (hK : K.ok) {ops : Array Oper} {o : Oper} {a : Act} {Kn : Act → World → Prop} {Qx : Exit → Act → World → Prop} {E : Prop} (hgd : o.guard = none) (s x : Operand)
    (ho : o.op = .call { callee := .builtin .append, args := #[s, x], argTypes := #[K.S, K.S] })
    (base : Nat) (v : Value) (L got : List α) (hs : a.eval s = v) (hown : OwnK K w base v L) {ad : Option Addr} {m c : Nat} (hx : a.eval x = .slice ad m c) (hgot : ArgK K w got ad m c)
    (hlen : L.length + m ≤ maxLen) (hbytes : (L.length + m) * K.bytes ≤ 140737488355328) (hbase : base ≤ w.heap.size)
    (h : ∀ (s' : Sl) w', s'.m = L.length + m → OwnK K w' base s'.v (L ++ got) → w.grownBy w' v.ownBlock → (∀ g, s'.v.ownBlock = some g → v.ownBlock = some g ∨ w.heap.size ≤ g) → Kn (a.put o.dst s'.v) w') :
    if Region.wanted o (yielded ops a.tmps) = true then Oper.wp Try.prog o a w Kn Qx else E := by
  have hw : Region.wanted o (yielded ops a.tmps) = true := by simp [Region.wanted, hgd]
  rw [if_pos hw]
  obtain ⟨i0, hi, hz0, hz1, hz2⟩ := info_parts hK.info
  have hund : Try.prog.underlying K.S = some (.slice K.T) := hK.und
  have hgl := hgot.len
  have hsame : m = 0 → (Builtin.append_ #[K.S, K.S] o.type #[v, .slice ad m c]).run Try.prog w = .ok v w → Oper.wp Try.prog o a w Kn Qx := fun h0 hr => by
    obtain ⟨ad', c', e, -⟩ := hown.form hK.tofit
    have hg0 : got = [] := List.eq_nil_of_length_eq_zero (by omega)
    have hk := h ⟨ad', L.length, c'⟩ w (by rw [h0]; rfl) (by rw [hg0, List.append_nil]; rw [e] at hown; exact hown) (World.grownBy.refl _ _) (fun g hg => Or.inl (by rw [e]; exact hg))
    unfold Oper.wp
    simp only [execOp, ho, resolve, invoke, builtin, Sem.run_bind, Sem.run_pure, Result.andThen_ok, List.map_toArray, List.map_cons, List.map_nil, hs, hx, hr]
    rw [e]
    exact hk
  by_cases h0 : m = 0
  · subst h0
    cases ad with
    | none =>
      obtain ⟨-, rfl⟩ := hgot.nil rfl
      exact hsame rfl (run_append_owned_none (P := Try.prog) (w := w) base _ _ _ i0 K.sz hund hi v _ _ hown)
    | some x0 => exact hsame rfl (run_app_none hund hi hown)
  · obtain ⟨b, off, rfl, hb, hc⟩ := hgot.cells (by omega)
    refine wp_append_lies w s x K.S ho base K.T i0 _ K.sz K.bytes hund hi hz0 hz1 hz2 hK.zsz hK.pos v L.length _ hs hown ⟨b, off, none⟩ m c (K.Vs got) hx (by rw [hK.tofit.Vs_len, hgl]) (hgot.row.cells hK.tofit _ rfl) (hK.Vs_ones _) (by omega) hlen hbytes hbase w.heap.size rfl ?_
    intro b' cap' w' h1 h2 h3 _
    refine h ⟨some ⟨b', 0, none⟩, L.length + m, cap'⟩ w' rfl ?_ h2 (fun g' hg' => ?_)
    · unfold OwnK
      rw [List.length_append, Kd.Vs_append, hgl]
      exact h1
    · have : b' = g' := by cases hg'; rfl
      subst this
      rcases h3 with h3 | h3
      · exact Or.inl h3
      · exact Or.inr (by omega)
/-- Calls of one's own. -/
structure CS (K : Kd HcA) (W : World) (base : Nat) (v : Value) (A : List HcA) : Prop where
  row : OwnK K W base v A
  part : ∀ i, i < A.length → OwnK kS W base (A.getD i hz0).2.v (A.getD i hz0).1.vals
  small : ∀ i, i < A.length → Small (A.getD i hz0).1
theorem own_arg {β : Type} {Kx : Kd β} (hK : Kx.fit) {base : Nat} {s : Sl} {l : List β} (h : OwnK Kx W base s.v l) : ArgK Kx W l s.ad s.m s.c := by
  obtain ⟨ad, c, e, ha⟩ := h.form hK
  have e' : Value.slice s.ad s.m s.c = .slice ad l.length c := e
  injection e' with e1 e2 e3
  rw [e1, e2, e3]; exact ha
theorem own_ne {β γ : Type} {K1 : Kd β} {K2 : Kd γ} (hT : K1.T ≠ K2.T) {b1 b2 : Nat} {v1 v2 : Value} {l1 : List β} {l2 : List γ} (h1 : OwnK K1 W b1 v1 l1) (h2 : OwnK K2 W b2 v2 l2) : ∀ g, v1.ownBlock = some g → v2.ownBlock ≠ some g := fun g e1 e2 => by
  obtain ⟨cur, hc⟩ := (h1.block g e1).2.2
  obtain ⟨cur2, hc2⟩ := (h2.block g e2).2.2
  rw [hc] at hc2
  injection hc2 with hc2
  injection hc2 with _ e _
  exact hT e
theorem CS.hv {K : Kd HcA} (hK : K.fit) {base : Nat} {a : Option Addr} {m c : Nat} {A : List HcA} (h : CS K W base (.slice a m c) A) : HV K W A a m c := by
  have h1 := own_arg (s := ⟨a, m, c⟩) hK h.row
  have hl : A.length = m := h1.len
  exact ⟨h1, fun i hi => own_arg kS_ok.tofit (h.part i (by omega)), fun i hi => h.small i (by omega)⟩
theorem CS.nil (K : Kd HcA) (W : World) (base : Nat) : CS K W base (.slice none 0 0) [] := ⟨OwnK.nil _ _, (fun i hi => by cases hi), (fun i hi => by cases hi)⟩
theorem CS.later {K : Kd HcA} {base : Nat} {v : Value} {A : List HcA} (h : CS K W base v A) (hb : RowKit.Below W.heap.size W w') : CS K w' base v A := ⟨h.row.later hb, fun i hi => (h.part i hi).later hb, h.small⟩
theorem getD_last {α : Type} (l : List α) (x z : α) (i : Nat) (h : i = l.length) : (l ++ [x]).getD i z = x := by subst h; simp [List.getD_eq_getElem?_getD]
theorem getD_left {α : Type} (l r : List α) (z : α) (i : Nat) (h : i < l.length) : (l ++ r).getD i z = l.getD i z := by simp [List.getD_eq_getElem?_getD, List.getElem?_append_left h]
/-- One call more. -/
theorem CS.more {W5 : World} {K : Kd HcA} (hT : kS.T ≠ K.T) {base : Nat} {v v5 : Value} {A : List HcA} {y : HcA} (h : CS K W base v A) (hy : OwnK kS W base y.2.v y.1.vals) (hs : Small y.1) (hG : W.grownBy W5 v.ownBlock) (h5 : OwnK K W5 base v5 (A ++ [y])) : CS K W5 base v5 (A ++ [y]) := by
  have keep : ∀ {s : Value} {l : List Nm}, OwnK kS W base s l → OwnK kS W5 base s l := fun hp => hp.keep (fun g hg => hG.block g (hp.block g hg).2.1 (fun e => own_ne hT hp h.row g hg e.symm))
  refine ⟨h5, fun i hi => ?_, fun i hi => ?_⟩
  · by_cases e : i < A.length
    · rw [getD_left _ _ _ _ e]
      exact keep (h.part i e)
    · have e0 : i = A.length := by rw [List.length_append] at hi; simp at hi; omega
      rw [getD_last _ _ _ _ e0]
      exact keep hy
  · by_cases e : i < A.length
    · rw [getD_left _ _ _ _ e]; exact h.small i e
    · have e0 : i = A.length := by rw [List.length_append] at hi; simp at hi; omega
      rw [getD_last _ _ _ _ e0]; exact hs
/-- What Own answers, and every copy. -/
def CPost (w : World) (A : List HcA) (m : Nat) (e : Ending) (w' : World) : Prop := ∃ a c B, e = .returned (.slice a m c) ∧ CS kC w' w.heap.size (.slice a m c) B ∧ cls B = cls A ∧ RowKit.Below w.heap.size w w'
end Go.Proofs.Ytpjemifoilbjeaa
