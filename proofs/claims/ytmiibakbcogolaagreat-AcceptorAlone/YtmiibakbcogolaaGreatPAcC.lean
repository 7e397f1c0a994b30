/- The small calls of package acceptor on one that is up: made, Up, rules, about, tell. keep of package acceptor. keep of package acceptor: a change. -/
import Derived.Test.YtmiibakbcogolaaGreatPAcP
import Derived.Test.YtmiibakbcogolaaGreatPAcR
import Derived.Test.YtmiibakbcogolaaGreatPAcT
import Derived.Laws.EntriesVeiled
import Derived.Test.YtmiibakbcogolaaGreatPRec
namespace Go.Proofs.YtmiibakbcogolaaGreat.Ac
open Go.RowKit Go.Shelf Crcm
variable {w w' W : World} {F : List Nat} {B M n S D : Nat} {s : SSt} {kn : Nat → Nat → Option Kn}

set_option maxRecDepth 100000 in
theorem made_up (h : Blk w B #[.pointer (some ⟨D, 0, none⟩), .pointer (some ⟨S, 0, none⟩), .map (some M)] TAc) : Calls Tryz.prog 58 #[.pointer (some ⟨B, 0, none⟩)] w fun e w' => e = .returned (.bool true) ∧ w' = w := by
  have c0 : w.cell? ⟨B, 0, none⟩ = some (.pointer (some ⟨D, 0, none⟩)) := h.cell 0
  clear h
  go_enter Tryz.func58, Tryz.ntmps58
  go_wp2
  go_ret
  exact ⟨rfl, rfl⟩
set_option maxRecDepth 100000 in
theorem up_up (h : Blk w B #[.pointer (some ⟨D, 0, none⟩), .pointer (some ⟨S, 0, none⟩), .map (some M)] TAc) : Calls Tryz.prog 31 #[.pointer (some ⟨B, 0, none⟩)] w fun e w' => e = .returned (.bool true) ∧ w' = w := by
  have hm := made_up h
  have c1 : w.cell? ⟨B, 1, none⟩ = some (.pointer (some ⟨S, 0, none⟩)) := h.cell 1
  clear h
  go_enter Tryz.func31, Tryz.ntmps31
  go_wp2_with (go_at_call 58; refine hm.mono ?_; rintro e w' ⟨rfl, hw'⟩; obtain rfl := hw'.symm)
  go_ret
  exact ⟨rfl, rfl⟩
set_option maxRecDepth 100000 in
set_option maxHeartbeats 1000000 in
theorem rules_any (w : World) : Calls Tryz.prog 62 #[] w fun x w' => x = .returned (.agg #[.nilFunc, .func (.func 92) #[] #[], .func (.func 93) #[] #[], .func (.func 94) #[] #[], .func (.func 95) #[] #[]]) ∧ w' = w.alloc (.cells #[.nilFunc, .func (.func 92) #[] #[], .func (.func 93) #[] #[], .func (.func 94) #[] #[], .func (.func 95) #[] #[]] 116) := by
  go_enter Tryz.func62, Tryz.ntmps62
  go_wp2
  refine bodyPost_ret (v := .agg #[.nilFunc, .func (.func 92) #[] #[], .func (.func 93) #[] #[], .func (.func 94) #[] #[], .func (.func 95) #[] #[]]) (by simp [results, Tryz.results62, go_sem]) rfl ⟨rfl, rfl⟩
theorem rules_at (a b c d e : Value) (W : World) : (Instr.index 116 (.agg #[a, b, c, d, e]) (.int .i64 1)).run Tryz.prog W = .ok b W ∧ (Instr.index 116 (.agg #[a, b, c, d, e]) (.int .i64 2)).run Tryz.prog W = .ok c W ∧ (Instr.index 116 (.agg #[a, b, c, d, e]) (.int .i64 3)).run Tryz.prog W = .ok d W ∧ (Instr.index 116 (.agg #[a, b, c, d, e]) (.int .i64 4)).run Tryz.prog W = .ok e W := by
  refine ⟨?_, ?_, ?_, ?_⟩ <;> simp [Instr.index, go_sem]
theorem ret_spot {fn : Func} {p : Tmp} (h : fn.results = #[.cell p TSp]) (tmps : Array Value) (w : World) (B : Nat) (a b : Value)
    (hp : tmps.getD p undef = .pointer (some ⟨B, 0, none⟩)) (hg : Blk w B #[a, b] TSp) :
    (results fn tmps).run Tryz.prog w = .ok (.agg #[a, b]) w := by
  have hl := run_loadVar_row (P := Tryz.prog) w B TSp TSp _ (0, 0) _ hg Tryz.underlying110 rfl (by kernel_rfl)
  have hp' : tmps[p]?.getD undef = .pointer (some ⟨B, 0, none⟩) := by rw [← hp]; simp
  simp [results, h, asAddr, hp', hl]
theorem last2 (w : World) (a : Obj) (cs : Array Value) (T : TypeId) : Blk ((w.alloc a).alloc (.cells cs T)) (w.heap.size + 1) cs T := by
  rw [show w.heap.size + 1 = (w.alloc a).heap.size by simp]
  exact heap_alloc_last _ _
theorem below2 (w : World) (a b : Obj) : Below w.heap.size w ((w.alloc a).alloc b) := ((Below.refl _ w).alloc (Nat.le_refl _) _).alloc (by simp) _
set_option maxRecDepth 100000 in
set_option maxHeartbeats 1000000 in
theorem about_any (k g v b : Int) (ad : Option Addr) (len cap : Nat) (w : World) (hk : (k == 4) = false) (r : Value) :
    Calls Tryz.prog 61 #[r, askV k g v b ad len cap] w fun x w' => x = .returned (.agg #[.int .i64 g, .int .i64 v]) ∧ Below w.heap.size w w' := by
  unfold askV
  go_enter Tryz.func61, Tryz.ntmps61
  go_wp2
  refine bodyPost_ret (ret_spot Tryz.results61 _ _ (w.heap.size + 1) _ _ rfl (last2 _ _ _ _)) rfl ⟨rfl, below2 _ _ _⟩
set_option maxRecDepth 100000 in
set_option maxHeartbeats 1000000 in
/-- tell of an Answer that may be. -/
theorem tell_ok (e v p b : Nat) (sl : Bool) (ad : Option Addr) (len cap : Nat) (l : List Nat) (w : World) (he : e ≤ 255) (hv : v < 281474976710656) (hpp : p < 281474976710656) (hbb : b < 281474976710656) (hlen : len ≤ 4000) (ha : Part.ok w ⟨ad, len, cap, l⟩) :
    Calls Tryz.prog 60 #[ansV e v p b sl ad len cap] w fun x w' => ∃ q : Part, x = .returned (.slice q.ad q.len q.cap) ∧ Hid (q.l = frameBs 4 (ansN e v p b sl.toNat l) ∧ q.ok w' ∧ q.len ≤ q.cap) ∧ Below w.heap.size w w' := by
  have HB : Hid (Below w.heap.size w (w.alloc (.cells #[.int .i64 (e : Int), .int .i64 (v : Int), .int .i64 (p : Int), .int .i64 (b : Int), .bool sl, .slice ad len cap] 36))) := hid ((Below.refl _ w).alloc (Nat.le_refl _) _)
  have HC := putAnswer_ok e v p b sl ad len cap l (w.alloc (.cells #[.int .i64 (e : Int), .int .i64 (v : Int), .int .i64 (p : Int), .int .i64 (b : Int), .bool sl, .slice ad len cap] 36)) he hv hpp hbb hlen (ha.later HB.out)
  clear ha
  unfold ansV at HC ⊢
  go_enter Tryz.func60, Tryz.ntmps60
  go_wp2_with (go_at_call 12; refine HC.mono ?_; rintro x W1 ⟨q, rfl, e1, k1, o1, b1⟩; have HQ : Hid (q.l = frameBs 4 (ansN e v p b sl.toNat l) ∧ q.ok W1 ∧ q.len ≤ q.cap) := hid ⟨e1.out, k1.out, by obtain ⟨_, _, ev, _, hlc, _⟩ := o1.out.form; injection ev with a1 a2 a3; omega⟩; have B1 : Hid (Below w.heap.size w W1) := hid (HB.out.trans (b1.mono HB.out.size)); clear e1 k1 o1 b1 HC)
  go_ret
  exact ⟨q, rfl, HQ, B1.out⟩
end Go.Proofs.YtmiibakbcogolaaGreat.Ac
namespace Go.Proofs.YtmiibakbcogolaaGreat.Ac
open Go.RowKit Go.Shelf Crcm
variable {w w' W : World} {F : List Nat} {B M S D X Y : Nat} {FD G : List Nat} {fx fy f : Lit → Option Value} {A : Nat → Nat → Value} {s : SSt} {kn : Nat → Nat → Option Kn}

theorem AP.chg (h : AP w F B S D M FD G X Y fx fy f A s kn) (hc : Chg (G ++ FD) w w') : Blk w' B #[.pointer (some ⟨D, 0, none⟩), .pointer (some ⟨S, 0, none⟩), .map (some M)] TAc ∧ KnMap w' M s.num kn f := 
  ⟨h.box.chg hc h.nB, h.kmap.keep (hc.block M (h.lt M h.mM) h.nM)⟩
/-- Behind a Put: the store's new picture, and what is known as it is said. -/
theorem AP.put (h : AP w F B S D M FD G X Y fx fy f A s kn) {FD' G' : List Nat} {fx' fy' : Lit → Option Value} {A' : Nat → Nat → Value} {s' : SSt} {kn' : Nat → Nat → Option Kn} {f' : Lit → Option Value} {w1 : World}
    (hp : SPic w1 FD' G' S D X Y fx' fy' A' s') (k1 : ∀ g ∈ FD', g ∈ FD ∨ w.heap.size ≤ g) (k2 : ∀ g ∈ G', g ∈ G ∨ w.heap.size ≤ g) (hb : Blk w1 B #[.pointer (some ⟨D, 0, none⟩), .pointer (some ⟨S, 0, none⟩), .map (some M)] TAc) (hk : KnMap w1 M s'.num kn' f') (hc : Chg F w w1) : AMoved F B s' kn' w w1 := by
  have lB := h.lt B h.mB
  have lM := h.lt M h.mM
  have nG : ∀ x, x < w.heap.size → x ∉ G ++ FD → x ∉ G' ++ FD' := fun x hx hn hm => by
    rcases List.mem_append.1 hm with hm | hm
    · exact (k2 x hm).elim (fun h1 => hn (List.mem_append.2 (Or.inl h1))) (fun h1 => by omega)
    · exact (k1 x hm).elim (fun h1 => hn (List.mem_append.2 (Or.inr h1))) (fun h1 => by omega)
  refine ⟨⟨B :: M :: (G' ++ FD'), ⟨S, D, M, FD', G', X, Y, fx', fy', f', A', ⟨hp, hk, hb, nG B lB h.nB, nG M lM h.nM, fun g hg => by simp [hg], fun g hg => by simp [hg], by simp, by simp, fun g hg => ?_⟩⟩, fun g hg => ?_⟩, hc⟩
  · simp only [List.mem_cons, List.mem_append] at hg
    rcases hg with rfl | rfl | hg | hg
    · exact hb.lt
    · exact hk.map.lt
    · exact hp.lt g hg
    · exact hp.disk.lt g hg
  · simp only [List.mem_cons, List.mem_append] at hg
    rcases hg with rfl | rfl | hg | hg
    · exact Or.inl h.mB
    · exact Or.inl h.mM
    · exact (k2 g hg).imp (h.sG g) id
    · exact (k1 g hg).imp (h.sF g) id
theorem AP.sub (h : AP w F B S D M FD G X Y fx fy f A s kn) : ∀ g ∈ G ++ FD, g ∈ F := fun g hg => (List.mem_append.1 hg).elim (h.sG g) (h.sF g)
/-- The cells that keep reads. -/
theorem keep_cells (h : AP w F B S D M FD G X Y fx fy f A s kn) (g v kp kb : Nat) (ks : Bool) (str : ByteArray) (W : World) (hW : Below (w.heap.size + 2) ((w.alloc (.cells #[.int .i64 (g : Int), .int .i64 (v : Int)] 110)).alloc (.cells #[.int .i64 (kp : Int), .int .i64 (kb : Int), .bool ks, .string str] 113)) W ∨ ∃ W0, Below (w.heap.size + 2) ((w.alloc (.cells #[.int .i64 (g : Int), .int .i64 (v : Int)] 110)).alloc (.cells #[.int .i64 (kp : Int), .int .i64 (kb : Int), .bool ks, .string str] 113)) W0 ∧ Chg (M :: (G ++ FD)) W0 W) :
    W.cell? ⟨B, 1, none⟩ = some (.pointer (some ⟨S, 0, none⟩)) ∧ W.cell? ⟨B, 2, none⟩ = some (.map (some M)) ∧ W.cell? ⟨w.heap.size, 0, none⟩ = some (.int .i64 (g : Int)) ∧ W.cell? ⟨w.heap.size, 1, none⟩ = some (.int .i64 (v : Int)) ∧ W.cell? ⟨w.heap.size + 1, 0, none⟩ = some (.int .i64 (kp : Int)) ∧ W.cell? ⟨w.heap.size + 1, 1, none⟩ = some (.int .i64 (kb : Int)) ∧ W.cell? ⟨w.heap.size + 1, 2, none⟩ = some (.bool ks) ∧ W.cell? ⟨w.heap.size + 1, 3, none⟩ = some (.string str) := by
  have hs : ((w.alloc (.cells #[.int .i64 (g : Int), .int .i64 (v : Int)] 110)).alloc (.cells #[.int .i64 (kp : Int), .int .i64 (kb : Int), .bool ks, .string str] 113)).heap.size = w.heap.size + 2 := by simp
  have b0 : Below w.heap.size w ((w.alloc (.cells #[.int .i64 (g : Int), .int .i64 (v : Int)] 110)).alloc (.cells #[.int .i64 (kp : Int), .int .i64 (kb : Int), .bool ks, .string str] 113)) := below2 _ _ _
  have hB := h.box.later b0
  have lB := h.lt B h.mB
  have lM := h.lt M h.mM
  have hlt : ∀ x ∈ G ++ FD, x < w.heap.size := fun x hx => h.lt x (h.sub x hx)
  have X1 : Blk ((w.alloc (.cells #[.int .i64 (g : Int), .int .i64 (v : Int)] 110)).alloc (.cells #[.int .i64 (kp : Int), .int .i64 (kb : Int), .bool ks, .string str] 113)) w.heap.size #[.int .i64 (g : Int), .int .i64 (v : Int)] 110 := blk_below (N := w.heap.size + 1) (blk_new _ w _) ((Below.refl _ _).alloc (by simp) _) (by omega)
  have X2 : Blk ((w.alloc (.cells #[.int .i64 (g : Int), .int .i64 (v : Int)] 110)).alloc (.cells #[.int .i64 (kp : Int), .int .i64 (kb : Int), .bool ks, .string str] 113)) (w.heap.size + 1) #[.int .i64 (kp : Int), .int .i64 (kb : Int), .bool ks, .string str] 113 := last2 _ _ _ _
  have fin : ∀ W, Blk W B #[.pointer (some ⟨D, 0, none⟩), .pointer (some ⟨S, 0, none⟩), .map (some M)] TAc → Blk W w.heap.size #[.int .i64 (g : Int), .int .i64 (v : Int)] 110 → Blk W (w.heap.size + 1) #[.int .i64 (kp : Int), .int .i64 (kb : Int), .bool ks, .string str] 113 → W.cell? ⟨B, 1, none⟩ = some (.pointer (some ⟨S, 0, none⟩)) ∧ W.cell? ⟨B, 2, none⟩ = some (.map (some M)) ∧ W.cell? ⟨w.heap.size, 0, none⟩ = some (.int .i64 (g : Int)) ∧ W.cell? ⟨w.heap.size, 1, none⟩ = some (.int .i64 (v : Int)) ∧ W.cell? ⟨w.heap.size + 1, 0, none⟩ = some (.int .i64 (kp : Int)) ∧ W.cell? ⟨w.heap.size + 1, 1, none⟩ = some (.int .i64 (kb : Int)) ∧ W.cell? ⟨w.heap.size + 1, 2, none⟩ = some (.bool ks) ∧ W.cell? ⟨w.heap.size + 1, 3, none⟩ = some (.string str) := fun W a b c => ⟨a.cell 1, a.cell 2, b.cell 0, b.cell 1, c.cell 0, c.cell 1, c.cell 2, c.cell 3⟩
  rcases hW with hW | ⟨W0, hW, hc⟩
  · exact fin W (blk_below hB hW (by omega)) (blk_below X1 hW (by omega)) (blk_below X2 hW (by omega))
  · have nn : ∀ x, (x < w.heap.size → x ∉ G ++ FD) → x ≠ M → x ∉ M :: (G ++ FD) := fun x h1 h2 hm => by
      rcases List.mem_cons.1 hm with hm | hm
      · exact h2 hm
      · exact h1 (hlt x hm) hm
    have n1 := nn B (fun _ => h.nB) h.neBM
    have n2 := nn w.heap.size (fun hh => absurd hh (by omega)) (by omega)
    have n3 := nn (w.heap.size + 1) (fun hh => absurd hh (by omega)) (by omega)
    exact fin W ((blk_below hB hW (by omega)).chg hc n1) ((blk_below X1 hW (by omega)).chg hc n2) ((blk_below X2 hW (by omega)).chg hc n3)
set_option maxRecDepth 100000 in
set_option maxHeartbeats 4000000 in
/-- Nothing is changed. -/
theorem keep_same (h : AP w F B S D M FD G X Y fx fy f A s kn) (g v : Nat) (hg : g < 281474976710656) (hv : v < 281474976710656) (k : Kn) (he : knAt kn g v = k) :
    Calls Tryz.prog 63 #[.pointer (some ⟨B, 0, none⟩), .agg #[.int .i64 (g : Int), .int .i64 (v : Int)], knV k] w fun x w' => x = .returned (.int .i64 0) ∧ Below w.heap.size w w' := by
  have hk := h.kmap.okAt g v
  rw [he] at hk
  obtain ⟨kp, kb, ks, kv⟩ := k
  have he0 := fun W => kn_eql ⟨kp, kb, ks, kv⟩ ⟨kp, kb, ks, kv⟩ hk hk true (by simp) W
  have hl0 : ∀ W, Below (w.heap.size + 2) ((w.alloc (.cells #[.int .i64 (g : Int), .int .i64 (v : Int)] 110)).alloc (.cells #[.int .i64 (kp : Int), .int .i64 (kb : Int), .bool ks, .string (bstr kv)] 113)) W → (Instr.lookup 68 (.map (some M)) (.agg #[.int .i64 (g : Int), .int .i64 (v : Int)]) false).run Tryz.prog W = .ok (.agg #[.int .i64 (kp : Int), .int .i64 (kb : Int), .bool ks, .string (bstr kv)]) W := fun W hW => by
    have q := (h.kmap.keep ((hW.block M (by have := h.lt M h.mM; omega)).trans ((below2 w _ _).block M (h.lt M h.mM)))).look hg hv
    rw [he] at q
    exact q
  have HC0 := fun W hW => keep_cells h g v kp kb ks (bstr kv) W (Or.inl hW)
  have HB : Hid (Below w.heap.size w ((w.alloc (.cells #[.int .i64 (g : Int), .int .i64 (v : Int)] 110)).alloc (.cells #[.int .i64 (kp : Int), .int .i64 (kb : Int), .bool ks, .string (bstr kv)] 113))) := hid (below2 _ _ _)
  unfold knV
  simp only at he0 ⊢
  generalize bstr kv = str at *
  have HC : Hid (∀ W, Below (w.heap.size + 2) ((w.alloc (.cells #[.int .i64 (g : Int), .int .i64 (v : Int)] 110)).alloc (.cells #[.int .i64 (kp : Int), .int .i64 (kb : Int), .bool ks, .string str] 113)) W → W.cell? ⟨B, 1, none⟩ = some (.pointer (some ⟨S, 0, none⟩)) ∧ W.cell? ⟨B, 2, none⟩ = some (.map (some M)) ∧ W.cell? ⟨w.heap.size, 0, none⟩ = some (.int .i64 (g : Int)) ∧ W.cell? ⟨w.heap.size, 1, none⟩ = some (.int .i64 (v : Int)) ∧ W.cell? ⟨w.heap.size + 1, 0, none⟩ = some (.int .i64 (kp : Int)) ∧ W.cell? ⟨w.heap.size + 1, 1, none⟩ = some (.int .i64 (kb : Int)) ∧ W.cell? ⟨w.heap.size + 1, 2, none⟩ = some (.bool ks) ∧ W.cell? ⟨w.heap.size + 1, 3, none⟩ = some (.string str)) := HC0
  have HL : Hid (∀ W, Below (w.heap.size + 2) ((w.alloc (.cells #[.int .i64 (g : Int), .int .i64 (v : Int)] 110)).alloc (.cells #[.int .i64 (kp : Int), .int .i64 (kb : Int), .bool ks, .string str] 113)) W → (Instr.lookup 68 (.map (some M)) (.agg #[.int .i64 (g : Int), .int .i64 (v : Int)]) false).run Tryz.prog W = .ok (.agg #[.int .i64 (kp : Int), .int .i64 (kb : Int), .bool ks, .string str]) W) := hl0
  have HE : Hid (∀ W, (binOp .eql 113 (.agg #[.int .i64 (kp : Int), .int .i64 (kb : Int), .bool ks, .string str]) (.agg #[.int .i64 (kp : Int), .int .i64 (kb : Int), .bool ks, .string str])).run Tryz.prog W = .ok (.bool true) W) := he0
  clear he0 hl0 HC0 h hk he
  go_enter Tryz.func63, Tryz.ntmps63
  go_wp2_with fail
  have D0 : Hid (Below (w.heap.size + 2) ((w.alloc (.cells #[.int .i64 (g : Int), .int .i64 (v : Int)] 110)).alloc (.cells #[.int .i64 (kp : Int), .int .i64 (kb : Int), .bool ks, .string str] 113)) ((w.alloc (.cells #[.int .i64 (g : Int), .int .i64 (v : Int)] 110)).alloc (.cells #[.int .i64 (kp : Int), .int .i64 (kb : Int), .bool ks, .string str] 113)).drew) := hid ((Below.refl _ _).drew)
  have hl := HL.out _ D0.out
  have he := HE.out
  go_region_held3 (fun W => (W.cell? ⟨B, 1, none⟩ = some (.pointer (some ⟨S, 0, none⟩)) ∧ W.cell? ⟨B, 2, none⟩ = some (.map (some M)) ∧ W.cell? ⟨w.heap.size, 0, none⟩ = some (.int .i64 (g : Int)) ∧ W.cell? ⟨w.heap.size, 1, none⟩ = some (.int .i64 (v : Int)) ∧ W.cell? ⟨w.heap.size + 1, 0, none⟩ = some (.int .i64 (kp : Int)) ∧ W.cell? ⟨w.heap.size + 1, 1, none⟩ = some (.int .i64 (kb : Int)) ∧ W.cell? ⟨w.heap.size + 1, 2, none⟩ = some (.bool ks) ∧ W.cell? ⟨w.heap.size + 1, 3, none⟩ = some (.string str)) ∧ (Instr.lookup 68 (.map (some M)) (.agg #[.int .i64 (g : Int), .int .i64 (v : Int)]) false).run Tryz.prog W = .ok (.agg #[.int .i64 (kp : Int), .int .i64 (kb : Int), .bool ks, .string str]) W)
    (exact ⟨HC.out _ D0.out, HL.out _ D0.out⟩)
    (fail)
  all_goals go_wp2
  all_goals go_ret
  all_goals exact ⟨rfl, HB.out.drew⟩
end Go.Proofs.YtmiibakbcogolaaGreat.Ac
namespace Go.Proofs.YtmiibakbcogolaaGreat.Ac
open Go.RowKit Go.Shelf Crcm
variable {w w' W : World} {F : List Nat} {B M S D X Y : Nat} {FD G : List Nat} {fx fy f : Lit → Option Value} {A : Nat → Nat → Value} {s : SSt} {kn : Nat → Nat → Option Kn}

/-- What is known behind a Put that was answered z. -/
def knIf (kn : Nat → Nat → Option Kn) (g v : Nat) (k : Kn) (z : Int) : Nat → Nat → Option Kn := if z = 0 then knSet kn g v k else kn
/-- What keep answers where Put answers z. -/
def keepE (z : Int) : Int := if z = 1 then 7 else z
theorem textLen {w : World} {p : Part} {v a b sl : Nat} {l : List Nat} (h : p.l = textN v a b sl l) (hk : p.ok w) (hl : l.length ≤ 4000) : p.len ≤ 1000000000000 := by
  have h1 : p.l.length = p.len := hk.1
  rw [h, textN_length] at h1
  omega
theorem chg_drew {w w' : World} {F : List Nat} (h : Chg F w w') : Chg F w w'.drew := h.trans (Chg.of (F := []) (Below.refl _ _).drew) (fun x hx => by cases hx)
theorem spic_drew {w : World} {Q : List Nat → List Nat → Prop} {S D X Y : Nat} {s : SSt} (h : ∃ FD' G' fx' fy' A', SPic w FD' G' S D X Y fx' fy' A' s ∧ Q FD' G') : ∃ FD' G' fx' fy' A', SPic w.drew FD' G' S D X Y fx' fy' A' s ∧ Q FD' G' := by
  obtain ⟨FD', G', fx', fy', A', h1, h2⟩ := h
  exact ⟨FD', G', fx', fy', A', h1.below (Below.refl _ _).drew, h2⟩
set_option maxRecDepth 100000 in
set_option maxHeartbeats 8000000 in
theorem keep_diff (h : AP w F B S D M FD G X Y fx fy f A s kn) (g v : Nat) (hg : g < 281474976710656) (hv : v < 281474976710656) (k : Kn) (hk : k.ok) (hne : knAt kn g v ≠ k) (hfew : ∀ x ∈ s.d.bs, x.vs.length ≤ 1000000) (z : Int) (s' : SSt)
    (hr : s.put (g : Int) (((s.look (g : Int)).tail : Nat) : Int) (textN v k.p k.b k.s.toNat k.v) false = (z, s')) (hn0 : s.num ≤ s'.num) (hn1 : z = 0 → s.num + 1 ≤ s'.num) :
    Calls Tryz.prog 63 #[.pointer (some ⟨B, 0, none⟩), .agg #[.int .i64 (g : Int), .int .i64 (v : Int)], knV k] w fun x w' => x = .returned (.int .i64 (keepE z)) ∧ AMoved F B s' (knIf kn g v k z) w w' := by
  have hka := h.kmap.okAt g v
  have hnum := h.store.num_le
  obtain ⟨ka, hkae⟩ : ∃ ka, knAt kn g v = ka := ⟨_, rfl⟩
  rw [hkae] at hka hne
  obtain ⟨kp, kb, ks, kv⟩ := k
  obtain ⟨ap, ab, asl, av⟩ := ka
  have he0 := fun W => kn_eql ⟨kp, kb, ks, kv⟩ ⟨ap, ab, asl, av⟩ hk hka false ⟨fun hh => (by cases hh), fun e => absurd e.symm hne⟩ W
  have HWB : Hid (Below w.heap.size w ((w.alloc (.cells #[.int .i64 (g : Int), .int .i64 (v : Int)] 110)).alloc (.cells #[.int .i64 (kp : Int), .int .i64 (kb : Int), .bool ks, .string (bstr kv)] 113))) := hid (below2 _ _ _)
  have hl0 : ∀ W, Below (w.heap.size + 2) ((w.alloc (.cells #[.int .i64 (g : Int), .int .i64 (v : Int)] 110)).alloc (.cells #[.int .i64 (kp : Int), .int .i64 (kb : Int), .bool ks, .string (bstr kv)] 113)) W → (Instr.lookup 68 (.map (some M)) (.agg #[.int .i64 (g : Int), .int .i64 (v : Int)]) false).run Tryz.prog W = .ok (.agg #[.int .i64 (ap : Int), .int .i64 (ab : Int), .bool asl, .string (bstr av)]) W := fun W hW => by
    have q := (h.kmap.keep ((hW.block M (by have := h.lt M h.mM; omega)).trans (HWB.out.block M (h.lt M h.mM)))).look hg hv
    rw [hkae] at q
    exact q
  have HC1 : Hid (∀ W W0, Below (w.heap.size + 2) ((w.alloc (.cells #[.int .i64 (g : Int), .int .i64 (v : Int)] 110)).alloc (.cells #[.int .i64 (kp : Int), .int .i64 (kb : Int), .bool ks, .string (bstr kv)] 113)) W0 → Chg (M :: (G ++ FD)) W0 W → W.cell? ⟨B, 1, none⟩ = some (.pointer (some ⟨S, 0, none⟩)) ∧ W.cell? ⟨B, 2, none⟩ = some (.map (some M)) ∧ W.cell? ⟨w.heap.size, 0, none⟩ = some (.int .i64 (g : Int)) ∧ W.cell? ⟨w.heap.size, 1, none⟩ = some (.int .i64 (v : Int)) ∧ W.cell? ⟨w.heap.size + 1, 0, none⟩ = some (.int .i64 (kp : Int)) ∧ W.cell? ⟨w.heap.size + 1, 1, none⟩ = some (.int .i64 (kb : Int)) ∧ W.cell? ⟨w.heap.size + 1, 2, none⟩ = some (.bool ks) ∧ W.cell? ⟨w.heap.size + 1, 3, none⟩ = some (.string (bstr kv))) := hid (fun W W0 h0 hW => keep_cells h g v kp kb ks (bstr kv) W (Or.inr ⟨W0, h0, hW⟩))
  have HC0 := fun W hW => keep_cells h g v kp kb ks (bstr kv) W (Or.inl hW)
  have hs2 : ((w.alloc (.cells #[.int .i64 (g : Int), .int .i64 (v : Int)] 110)).alloc (.cells #[.int .i64 (kp : Int), .int .i64 (kb : Int), .bool ks, .string (bstr kv)] 113)).heap.size = w.heap.size + 2 := by simp
  -- the calls
  have HBW : Hid (∀ W, Below (w.heap.size + 2) ((w.alloc (.cells #[.int .i64 (g : Int), .int .i64 (v : Int)] 110)).alloc (.cells #[.int .i64 (kp : Int), .int .i64 (kb : Int), .bool ks, .string (bstr kv)] 113)) W → Below w.heap.size w W ∧ w.heap.size + 2 ≤ W.heap.size) := hid (fun W hW => ⟨HWB.out.trans (hW.mono (by omega)), by have := hW.size; omega⟩)
  have HT : Hid (∀ W, Below (w.heap.size + 2) ((w.alloc (.cells #[.int .i64 (g : Int), .int .i64 (v : Int)] 110)).alloc (.cells #[.int .i64 (kp : Int), .int .i64 (kb : Int), .bool ks, .string (bstr kv)] 113)) W → Calls Tryz.prog 97 #[.pointer (some ⟨S, 0, none⟩), .int .i64 (g : Int)] W fun x w' => x = .returned (.int .i64 ((s.look (g : Int)).tail : Nat)) ∧ Below (w.heap.size + 2) ((w.alloc (.cells #[.int .i64 (g : Int), .int .i64 (v : Int)] 110)).alloc (.cells #[.int .i64 (kp : Int), .int .i64 (kb : Int), .bool ks, .string (bstr kv)] 113)) w') := hid (fun W hW => (tail_pic (h.store.below (HBW.out W hW).1) (g : Int) (by omega) (by omega)).mono fun x w' hx => ⟨hx.1, hW.trans (hx.2.mono (HBW.out W hW).2)⟩)
  have HA : Hid (∀ W, Below (w.heap.size + 2) ((w.alloc (.cells #[.int .i64 (g : Int), .int .i64 (v : Int)] 110)).alloc (.cells #[.int .i64 (kp : Int), .int .i64 (kb : Int), .bool ks, .string (bstr kv)] 113)) W → Calls Tryz.prog 64 #[.agg #[.int .i64 (kp : Int), .int .i64 (kb : Int), .bool ks, .string (bstr kv)], .int .i64 (v : Int)] W fun x w' => ∃ q : Part, x = .returned (.agg #[.int .i64 0, .int .i64 (v : Int), .int .i64 (kp : Int), .int .i64 (kb : Int), .bool ks, .slice q.ad q.len q.cap]) ∧ Hid (q.l = kv ∧ q.ok w' ∧ q.len ≤ 4000) ∧ Below (w.heap.size + 2) ((w.alloc (.cells #[.int .i64 (g : Int), .int .i64 (v : Int)] 110)).alloc (.cells #[.int .i64 (kp : Int), .int .i64 (kb : Int), .bool ks, .string (bstr kv)] 113)) w') := hid (fun W hW => (answer_any ⟨kp, kb, ks, kv⟩ hk (v : Int) W).mono fun x w' hx => by
    obtain ⟨q, rfl, e1, l1, b1⟩ := hx
    exact ⟨q, rfl, hid ⟨e1.out.1, e1.out.2, l1⟩, hW.trans (b1.mono (HBW.out W hW).2)⟩)
  have HX : Hid (∀ W (q : Part), Below (w.heap.size + 2) ((w.alloc (.cells #[.int .i64 (g : Int), .int .i64 (v : Int)] 110)).alloc (.cells #[.int .i64 (kp : Int), .int .i64 (kb : Int), .bool ks, .string (bstr kv)] 113)) W → (q.l = kv ∧ q.ok W ∧ q.len ≤ 4000) → Calls Tryz.prog 42 #[.agg #[.int .i64 0, .int .i64 (v : Int), .int .i64 (kp : Int), .int .i64 (kb : Int), .bool ks, .slice q.ad q.len q.cap]] W fun x w' => ∃ p : Part, x = .returned (.slice p.ad p.len p.cap) ∧ Hid (p.l = textN v kp kb ks.toNat kv ∧ p.ok w') ∧ Below (w.heap.size + 2) ((w.alloc (.cells #[.int .i64 (g : Int), .int .i64 (v : Int)] 110)).alloc (.cells #[.int .i64 (kp : Int), .int .i64 (kb : Int), .bool ks, .string (bstr kv)] 113)) w') := hid (fun W q hW hq => (text_ok 0 v kp kb ks q.ad q.len q.cap kv W hv hk.p hk.b hq.2.2 (by have := hq.2.1; rw [← hq.1]; exact this)).mono fun x w' hx => by
    obtain ⟨p, rfl, e1, k1, -, b1⟩ := hx
    exact ⟨p, rfl, hid ⟨e1.out, k1.out⟩, hW.trans (b1.mono (HBW.out W hW).2)⟩)
  have HP : Hid (∀ W (p : Part), Below (w.heap.size + 2) ((w.alloc (.cells #[.int .i64 (g : Int), .int .i64 (v : Int)] 110)).alloc (.cells #[.int .i64 (kp : Int), .int .i64 (kb : Int), .bool ks, .string (bstr kv)] 113)) W → (p.l = textN v kp kb ks.toNat kv ∧ p.ok W) → Calls Tryz.prog 96 #[.pointer (some ⟨S, 0, none⟩), .int .i64 (g : Int), .int .i64 ((s.look (g : Int)).tail : Nat), .slice p.ad p.len p.cap, .bool false] W fun x w' => x = .returned (.int .i64 z) ∧ Hid (Chg (G ++ FD) W w') ∧ Hid (∃ FD' G' fx' fy' A', SPic w' FD' G' S D X Y fx' fy' A' s' ∧ (∀ g ∈ FD', g ∈ FD ∨ w.heap.size ≤ g) ∧ (∀ g ∈ G', g ∈ G ∨ w.heap.size ≤ g))) := hid (fun W p hW hp => (put_pic (h.store.below (HBW.out W hW).1) (g : Int) (((s.look (g : Int)).tail : Nat) : Int) (by omega) (by omega) p.ad p.len p.cap (textN v kp kb ks.toNat kv) (by have := hp.2; rw [← hp.1]; exact this) (textLen hp.1 hp.2 hk.len) false hfew).mono fun x w' hx => by
    rw [hr] at hx
    obtain ⟨rfl, FD', G', fx', fy', A', hp1, k1, k2, hc⟩ := hx
    have hz := (HBW.out W hW).2
    exact ⟨rfl, hid hc, hid ⟨FD', G', fx', fy', A', hp1, fun g hg => (k1 g hg).imp id (fun hh => by omega), fun g hg => (k2 g hg).imp id (fun hh => by omega)⟩⟩)
  -- the end
  have HST : Hid (z = 0 → ∀ W0 W, Below (w.heap.size + 2) ((w.alloc (.cells #[.int .i64 (g : Int), .int .i64 (v : Int)] 110)).alloc (.cells #[.int .i64 (kp : Int), .int .i64 (kb : Int), .bool ks, .string (bstr kv)] 113)) W0 → Chg (G ++ FD) W0 W → ∃ w6, (Instr.mapUpdate 68 (.map (some M)) (.agg #[.int .i64 (g : Int), .int .i64 (v : Int)]) (.agg #[.int .i64 (kp : Int), .int .i64 (kb : Int), .bool ks, .string (bstr kv)])).run Tryz.prog W = .ok () w6 ∧ Hid (Chg (M :: (G ++ FD)) W0 w6) ∧ Hid ((∃ FD' G' fx' fy' A', SPic W FD' G' S D X Y fx' fy' A' s' ∧ (∀ g ∈ FD', g ∈ FD ∨ w.heap.size ≤ g) ∧ (∀ g ∈ G', g ∈ G ∨ w.heap.size ≤ g)) → AMoved F B s' (knIf kn g v ⟨kp, kb, ks, kv⟩ z) w w6)) := hid (fun hz W0 W h0 hW => by
    obtain ⟨hb0, hs0⟩ := HBW.out W0 h0
    have lM := h.lt M h.mM
    have km : KnMap W M s.num kn f := h.kmap.keep ((hW.block M (by omega) h.nM).trans (hb0.block M lM))
    obtain ⟨w6, f', hrun, hkm, hch⟩ := km.store (by unfold maxLen; omega) hg hv hk
    refine ⟨w6, hrun, hid ((hW.mono (fun x hx => by simp [hx])).trans (hch.mono (fun x hx => by simp at hx; simp [hx])) (fun x hx => Or.inl hx)), hid (fun hsp => ?_)⟩
    obtain ⟨FD', G', fx', fy', A', hp1, k1, k2⟩ := hsp
    have nM' : M ∉ G' ++ FD' := fun hm => by
      rcases List.mem_append.1 hm with hm | hm
      · exact (k2 M hm).elim (fun hh => h.nM (List.mem_append.2 (Or.inl hh))) (fun hh => by omega)
      · exact (k1 M hm).elim (fun hh => h.nM (List.mem_append.2 (Or.inr hh))) (fun hh => by omega)
    have hp6 : SPic w6 FD' G' S D X Y fx' fy' A' s' := hp1.keep (fun x hx => by
      have hxn : x ∉ [M] := fun hm => by
        simp at hm
        subst hm
        exact nM' (List.mem_append.2 (hx.elim Or.inr Or.inl))
      exact hch.block x (hx.elim (hp1.disk.lt x) (hp1.lt x)) hxn) hch.size
    have hB6 : Blk w6 B #[.pointer (some ⟨D, 0, none⟩), .pointer (some ⟨S, 0, none⟩), .map (some M)] TAc := ((h.box.later hb0).chg hW h.nB).chg hch (by simpa using h.neBM)
    unfold knIf
    rw [if_pos hz]
    refine h.put hp6 k1 k2 hB6 (hkm.mono (hn1 hz)) ?_
    refine ((Chg.of hb0).trans (hW.mono h.sub) (fun x hx => Or.inl hx)).trans (hch.mono (fun x hx => by simp at hx; subst hx; exact h.mM)) (fun x hx => Or.inl hx))
  have HEND : Hid (z ≠ 0 → ∀ W0 W, Below (w.heap.size + 2) ((w.alloc (.cells #[.int .i64 (g : Int), .int .i64 (v : Int)] 110)).alloc (.cells #[.int .i64 (kp : Int), .int .i64 (kb : Int), .bool ks, .string (bstr kv)] 113)) W0 → Chg (G ++ FD) W0 W → (∃ FD' G' fx' fy' A', SPic W FD' G' S D X Y fx' fy' A' s' ∧ (∀ g ∈ FD', g ∈ FD ∨ w.heap.size ≤ g) ∧ (∀ g ∈ G', g ∈ G ∨ w.heap.size ≤ g)) → AMoved F B s' (knIf kn g v ⟨kp, kb, ks, kv⟩ z) w W) := hid (fun hz W0 W h0 hW hsp => by
    obtain ⟨hb0, hs0⟩ := HBW.out W0 h0
    have lM := h.lt M h.mM
    obtain ⟨FD', G', fx', fy', A', hp1, k1, k2⟩ := hsp
    unfold knIf
    rw [if_neg hz]
    refine h.put hp1 k1 k2 ((h.box.later hb0).chg hW h.nB) ((h.kmap.keep ((hW.block M (by omega) h.nM).trans (hb0.block M lM))).mono hn0) ?_
    exact (Chg.of hb0).trans (hW.mono h.sub) (fun x hx => Or.inl hx))
  clear hr hn0 hn1 hfew hkae hne hk hka h HWB hs2
  unfold knV
  simp only at he0 ⊢
  generalize bstr kv = str at *
  generalize bstr av = stra at *
  generalize (s.look (g : Int)).tail = tl at *
  have HC : Hid (∀ W, Below (w.heap.size + 2) ((w.alloc (.cells #[.int .i64 (g : Int), .int .i64 (v : Int)] 110)).alloc (.cells #[.int .i64 (kp : Int), .int .i64 (kb : Int), .bool ks, .string str] 113)) W → W.cell? ⟨B, 1, none⟩ = some (.pointer (some ⟨S, 0, none⟩)) ∧ W.cell? ⟨B, 2, none⟩ = some (.map (some M)) ∧ W.cell? ⟨w.heap.size, 0, none⟩ = some (.int .i64 (g : Int)) ∧ W.cell? ⟨w.heap.size, 1, none⟩ = some (.int .i64 (v : Int)) ∧ W.cell? ⟨w.heap.size + 1, 0, none⟩ = some (.int .i64 (kp : Int)) ∧ W.cell? ⟨w.heap.size + 1, 1, none⟩ = some (.int .i64 (kb : Int)) ∧ W.cell? ⟨w.heap.size + 1, 2, none⟩ = some (.bool ks) ∧ W.cell? ⟨w.heap.size + 1, 3, none⟩ = some (.string str)) := HC0
  have HL : Hid (∀ W, Below (w.heap.size + 2) ((w.alloc (.cells #[.int .i64 (g : Int), .int .i64 (v : Int)] 110)).alloc (.cells #[.int .i64 (kp : Int), .int .i64 (kb : Int), .bool ks, .string str] 113)) W → (Instr.lookup 68 (.map (some M)) (.agg #[.int .i64 (g : Int), .int .i64 (v : Int)]) false).run Tryz.prog W = .ok (.agg #[.int .i64 (ap : Int), .int .i64 (ab : Int), .bool asl, .string stra]) W) := hl0
  have HE : Hid (∀ W, (binOp .eql 113 (.agg #[.int .i64 (kp : Int), .int .i64 (kb : Int), .bool ks, .string str]) (.agg #[.int .i64 (ap : Int), .int .i64 (ab : Int), .bool asl, .string stra])).run Tryz.prog W = .ok (.bool false) W) := he0
  clear he0 hl0 HC0
  go_enter Tryz.func63, Tryz.ntmps63
  go_wp2_with fail
  generalize hW0 : ((w.alloc (.cells #[.int .i64 (g : Int), .int .i64 (v : Int)] 110)).alloc (.cells #[.int .i64 (kp : Int), .int .i64 (kb : Int), .bool ks, .string str] 113)) = W0 at *
  clear hW0
  have D0 : Hid (Below (w.heap.size + 2) W0 W0.drew) := hid ((Below.refl _ _).drew)
  have hl := HL.out _ D0.out
  have he := HE.out
  go_region_held3 (fun W => (W.cell? ⟨B, 1, none⟩ = some (.pointer (some ⟨S, 0, none⟩)) ∧ W.cell? ⟨B, 2, none⟩ = some (.map (some M)) ∧ W.cell? ⟨w.heap.size, 0, none⟩ = some (.int .i64 (g : Int)) ∧ W.cell? ⟨w.heap.size, 1, none⟩ = some (.int .i64 (v : Int)) ∧ W.cell? ⟨w.heap.size + 1, 0, none⟩ = some (.int .i64 (kp : Int)) ∧ W.cell? ⟨w.heap.size + 1, 1, none⟩ = some (.int .i64 (kb : Int)) ∧ W.cell? ⟨w.heap.size + 1, 2, none⟩ = some (.bool ks) ∧ W.cell? ⟨w.heap.size + 1, 3, none⟩ = some (.string str)) ∧ (Instr.lookup 68 (.map (some M)) (.agg #[.int .i64 (g : Int), .int .i64 (v : Int)]) false).run Tryz.prog W = .ok (.agg #[.int .i64 (ap : Int), .int .i64 (ab : Int), .bool asl, .string stra]) W)
    (exact ⟨HC.out _ D0.out, HL.out _ D0.out⟩)
    (fail)
  clear he hl HL HE
  go_wp2_with fail
  have D1 : Hid (Below (w.heap.size + 2) W0 W0.drew.drew) := hid (D0.out.drew)
  go_region_held3 (fun W => W.cell? ⟨B, 1, none⟩ = some (.pointer (some ⟨S, 0, none⟩)) ∧ W.cell? ⟨B, 2, none⟩ = some (.map (some M)) ∧ W.cell? ⟨w.heap.size, 0, none⟩ = some (.int .i64 (g : Int)) ∧ W.cell? ⟨w.heap.size, 1, none⟩ = some (.int .i64 (v : Int)) ∧ W.cell? ⟨w.heap.size + 1, 0, none⟩ = some (.int .i64 (kp : Int)) ∧ W.cell? ⟨w.heap.size + 1, 1, none⟩ = some (.int .i64 (kb : Int)) ∧ W.cell? ⟨w.heap.size + 1, 2, none⟩ = some (.bool ks) ∧ W.cell? ⟨w.heap.size + 1, 3, none⟩ = some (.string str))
    (first | exact HC.out _ D1.out | exact HC.out _ D2.out | exact HC.out _ D3.out | exact HC.out _ D4.out | exact S5.out)
    (first
      | (go_at_call 97; (with_reducible_and_instances (refine (HT.out W0.drew.drew D1.out).mono ?_)); rintro x w2 ⟨rfl, b2⟩; have D2 : Hid (Below (w.heap.size + 2) W0 w2) := b2; clear b2)
      | (go_at_call 64; (with_reducible_and_instances (refine (HA.out w2 D2.out).mono ?_)); rintro x w3 ⟨q3, rfl, Q3, b3⟩; have D3 : Hid (Below (w.heap.size + 2) W0 w3) := b3; clear b3)
      | (go_at_call 42; (with_reducible_and_instances (refine (HX.out w3 q3 D3.out Q3.out).mono ?_)); rintro x w4 ⟨p4, rfl, P4, b4⟩; have D4 : Hid (Below (w.heap.size + 2) W0 w4) := b4; clear b4)
      | (go_at_call 96; (with_reducible_and_instances (refine (HP.out w4 p4 D4.out P4.out).mono ?_)); rintro x w5 ⟨rfl, C5, P5⟩; have S5 : Hid (w5.cell? ⟨B, 1, none⟩ = some (.pointer (some ⟨S, 0, none⟩)) ∧ w5.cell? ⟨B, 2, none⟩ = some (.map (some M)) ∧ w5.cell? ⟨w.heap.size, 0, none⟩ = some (.int .i64 (g : Int)) ∧ w5.cell? ⟨w.heap.size, 1, none⟩ = some (.int .i64 (v : Int)) ∧ w5.cell? ⟨w.heap.size + 1, 0, none⟩ = some (.int .i64 (kp : Int)) ∧ w5.cell? ⟨w.heap.size + 1, 1, none⟩ = some (.int .i64 (kb : Int)) ∧ w5.cell? ⟨w.heap.size + 1, 2, none⟩ = some (.bool ks) ∧ w5.cell? ⟨w.heap.size + 1, 3, none⟩ = some (.string str)) := hid (HC1.out w5 w4 D4.out (C5.out.mono (fun x hx => by simp [hx])))))
  clear HT HA HX HP HC D1 D2 D3 Q3 P4 D0
  by_cases hz : z = 0
  · subst hz
    obtain ⟨w6, hst, C6, M6⟩ := HST.out rfl w4 w5.drew D4.out (chg_drew C5.out)
    have S6 : Hid (w6.cell? ⟨B, 1, none⟩ = some (.pointer (some ⟨S, 0, none⟩)) ∧ w6.cell? ⟨B, 2, none⟩ = some (.map (some M)) ∧ w6.cell? ⟨w.heap.size, 0, none⟩ = some (.int .i64 (g : Int)) ∧ w6.cell? ⟨w.heap.size, 1, none⟩ = some (.int .i64 (v : Int)) ∧ w6.cell? ⟨w.heap.size + 1, 0, none⟩ = some (.int .i64 (kp : Int)) ∧ w6.cell? ⟨w.heap.size + 1, 1, none⟩ = some (.int .i64 (kb : Int)) ∧ w6.cell? ⟨w.heap.size + 1, 2, none⟩ = some (.bool ks) ∧ w6.cell? ⟨w.heap.size + 1, 3, none⟩ = some (.string str)) := hid (HC1.out w6 w4 D4.out C6.out)
    have S5d : Hid (w5.drew.cell? ⟨B, 1, none⟩ = some (.pointer (some ⟨S, 0, none⟩)) ∧ w5.drew.cell? ⟨B, 2, none⟩ = some (.map (some M)) ∧ w5.drew.cell? ⟨w.heap.size, 0, none⟩ = some (.int .i64 (g : Int)) ∧ w5.drew.cell? ⟨w.heap.size, 1, none⟩ = some (.int .i64 (v : Int)) ∧ w5.drew.cell? ⟨w.heap.size + 1, 0, none⟩ = some (.int .i64 (kp : Int)) ∧ w5.drew.cell? ⟨w.heap.size + 1, 1, none⟩ = some (.int .i64 (kb : Int)) ∧ w5.drew.cell? ⟨w.heap.size + 1, 2, none⟩ = some (.bool ks) ∧ w5.drew.cell? ⟨w.heap.size + 1, 3, none⟩ = some (.string str)) := hid (HC1.out w5.drew w4 D4.out ((chg_drew C5.out).mono (fun x hx => by simp [hx])))
    have HM6 : Hid (AMoved F B s' (knIf kn g v ⟨kp, kb, ks, kv⟩ 0) w w6) := hid (M6.out (spic_drew (Q := fun FD' G' => (∀ g ∈ FD', g ∈ FD ∨ w.heap.size ≤ g) ∧ (∀ g ∈ G', g ∈ G ∨ w.heap.size ≤ g)) P5.out))
    clear HST HEND HC1 M6 C6 C5 P5 S5
    go_wp2_with fail
    go_region_held3 (fun W => W.cell? ⟨B, 1, none⟩ = some (.pointer (some ⟨S, 0, none⟩)) ∧ W.cell? ⟨B, 2, none⟩ = some (.map (some M)) ∧ W.cell? ⟨w.heap.size, 0, none⟩ = some (.int .i64 (g : Int)) ∧ W.cell? ⟨w.heap.size, 1, none⟩ = some (.int .i64 (v : Int)) ∧ W.cell? ⟨w.heap.size + 1, 0, none⟩ = some (.int .i64 (kp : Int)) ∧ W.cell? ⟨w.heap.size + 1, 1, none⟩ = some (.int .i64 (kb : Int)) ∧ W.cell? ⟨w.heap.size + 1, 2, none⟩ = some (.bool ks) ∧ W.cell? ⟨w.heap.size + 1, 3, none⟩ = some (.string str)) (first | exact S5d.out | exact S6.out) (fail)
    all_goals go_wp2
    all_goals go_ret
    all_goals exact ⟨rfl, HM6.out⟩
  · have hm := HEND.out hz w4 w5 D4.out C5.out P5.out
    have HM : Hid (AMoved F B s' (knIf kn g v ⟨kp, kb, ks, kv⟩ z) w w5) := hm
    have hz0 : (z == 0) = false := by simpa using hz
    clear hm HST HEND HC1 C5 P5 S5
    by_cases h1 : z = 1
    · subst h1
      go_wp2
      go_ret
      exact ⟨rfl, HM.out⟩
    · have hz1 : (z == 1) = false := by simpa using h1
      have HK : Hid (keepE z = z) := hid (by simp [keepE, h1])
      go_wp2
      go_ret
      exact ⟨ret_int HK.out.symm, HM.out⟩
end Go.Proofs.YtmiibakbcogolaaGreat.Ac
