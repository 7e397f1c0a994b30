/- isCommitted of a ledger (by genlcomm.py). Fetch of a ledger (by genlfetch.py). -/
import Derived.Test.YtfgamkcnnijloaaGreatTk
import Derived.Test.YtfgamkcnnijloaaGreatPZAb
import Derived.Deep.RegionHeld3
import Derived.OrdersHeld
namespace Go.Proofs.YtfgamkcnnijloaaGreat
open Go.RowKit Go.Shelf
variable {w w' : World} {L t M n N : Nat} {vr vo va : Value} {g : Lg}

/-- A row that is committed. -/
def Lg.comm (g : Lg) (r : Rw) : Bool := decide (r.off < g.stable) && !g.dead r
set_option maxHeartbeats 1000000 in
theorem isCommitted_any (h : LPic0 w L t M n N vr vo va g) (r : Rw) : Calls Tryz.prog 33 #[.pointer (some ⟨L, 0, none⟩), .agg #[.int .i64 r.off, .int .i64 r.prod, .bool r.tx, .string r.rc.key, .string r.rc.val, .bool r.rc.dead]] w fun e w' => e = .returned (.bool (g.comm r)) ∧ Below w.heap.size w w' := by
  obtain ⟨ro, rp, rt, ⟨rk, rv, rd⟩⟩ := r
  obtain ⟨W0, hW0⟩ : ∃ W0, w.alloc (.cells #[.int .i64 ro, .int .i64 rp, .bool rt, .string rk, .string rv, .bool rd] 51) = W0 := ⟨_, rfl⟩
  have b0 : Below w.heap.size w W0 := by rw [← hW0]; exact (Below.refl _ _).alloc (Nat.le_refl _) _
  have x0 : RwBox W0 w.heap.size ⟨ro, rp, rt, ⟨rk, rv, rd⟩⟩ := by rw [← hW0]; exact heap_alloc_new w _
  have HS : Hid (∀ W, Below W0.heap.size W0 W → (W.cell? ⟨w.heap.size, 0, none⟩ = some (.int .i64 ro)) ∧ (W.cell? ⟨w.heap.size, 1, none⟩ = some (.int .i64 rp)) ∧ (W.cell? ⟨w.heap.size, 2, none⟩ = some (.bool rt)) ∧ (W.cell? ⟨w.heap.size, 3, none⟩ = some (.string rk)) ∧ (W.cell? ⟨w.heap.size, 4, none⟩ = some (.string rv)) ∧ (W.cell? ⟨w.heap.size, 5, none⟩ = some (.bool rd))) := fun W hW => by
    have hx : RwBox W w.heap.size ⟨ro, rp, rt, ⟨rk, rv, rd⟩⟩ := Blk.later x0 hW
    exact ⟨Blk.cell hx 0, Blk.cell hx 1, Blk.cell hx 2, Blk.cell hx 3, Blk.cell hx 4, Blk.cell hx 5⟩
  have hp := (h.later b0).later (Below.refl _ W0).drew
  have HSt := hid (stable_any hp)
  have HAb := hid (isAborted_any hp ⟨ro, rp, rt, ⟨rk, rv, rd⟩⟩)
  have HB := hid b0
  have lx : w.heap.size < W0.heap.size := Blk.lt x0
  have HC : Hid (g.comm ⟨ro, rp, rt, ⟨rk, rv, rd⟩⟩ = (decide (ro < g.stable) && !g.dead ⟨ro, rp, rt, ⟨rk, rv, rd⟩⟩)) := rfl
  clear h hp b0 x0
  generalize g.dead ⟨ro, rp, rt, ⟨rk, rv, rd⟩⟩ = z at *
  generalize g.stable = st at *
  cases hlt : decide (ro < st) with
  | true =>
    have HC2 : Hid (g.comm ⟨ro, rp, rt, ⟨rk, rv, rd⟩⟩ = !z) := by rw [HC.out, hlt]; exact rfl
    go_enter Tryz.func33, Tryz.ntmps33
    go_wp2_with fail
    refine wp_region_held_drew (S := fun W => (W.cell? ⟨w.heap.size, 0, none⟩ = some (.int .i64 ro)) ∧ (W.cell? ⟨w.heap.size, 1, none⟩ = some (.int .i64 rp)) ∧ (W.cell? ⟨w.heap.size, 2, none⟩ = some (.bool rt)) ∧ (W.cell? ⟨w.heap.size, 3, none⟩ = some (.string rk)) ∧ (W.cell? ⟨w.heap.size, 4, none⟩ = some (.string rv)) ∧ (W.cell? ⟨w.heap.size, 5, none⟩ = some (.bool rd))) (by kernel_rfl) (HS.out _ (Below.refl _ W0).drew) (fun hHeld => ?_)
    refine tk 0 5 hHeld ?_
    try simp only [Act.put, p1, p2, p3]
    refine tk 1 6 hHeld ?_
    try simp only [Act.put, p1, p2, p3]
    refine tk 2 7 hHeld ?_
    try simp only [Act.put, p1, p2, p3]
    refine wpAnyH_ready (rs := [3]) (by kernel_rfl) (by simp) ?_
    refine AllReadyH.cons rfl (fun K hK => ?_) (AllReadyH.nil)
    go_simp
    go_wp2_with (go_at_call 15; (with_reducible_and_instances (refine HSt.out.mono ?_)); rintro x W1 ⟨rfl, hw1⟩; obtain rfl := hw1.symm)
    refine hK.out _ _ (HS.out _ (Below.refl _ W0).drew) (fun hHeld => ?_)
    clear hK K
    try simp only [Act.put, p1, p2, p3]
    refine tk 4 9 hHeld ?_
    try simp only [Act.put, p1, p2, p3]
    refine tk 5 10 hHeld ?_
    try simp only [Act.put, p1, p2, p3]
    refine tk 6 11 hHeld ?_
    try simp only [Act.put, p1, p2, p3]
    refine tk 7 12 hHeld ?_
    try simp only [Act.put, p1, p2, p3]
    refine wpAnyH_ready (rs := [8]) (by kernel_rfl) (by simp) ?_
    refine AllReadyH.cons rfl (fun K hK => ?_) (AllReadyH.nil)
    go_simp
    go_wp2_with (go_at_call 53; (with_reducible_and_instances (refine HAb.out.mono ?_)); rintro x W2 ⟨rfl, hb2⟩; have HB2 := hid ((Below.refl _ W0).drew.trans hb2); clear hb2)
    refine hK.out _ _ (HS.out _ HB2.out) (fun hHeld => ?_)
    clear hK K
    try simp only [Act.put, p1, p2, p3]
    refine tk 9 14 hHeld ?_
    try simp only [Act.put, p1, p2, p3]
    refine tk 10 15 hHeld ?_
    try simp only [Act.put, p1, p2, p3]
    refine tk 11 4 hHeld ?_
    try simp only [Act.put, p1, p2, p3]
    refine wpAnyH_done (by kernel_rfl) ?_ _
    clear hHeld
    go_wp2_with fail
    go_ret
    exact ⟨by rw [HC2.out]; rfl, HB.out.trans (HB2.out.mono HB.out.size)⟩
  | false =>
    have HC2 : Hid (g.comm ⟨ro, rp, rt, ⟨rk, rv, rd⟩⟩ = false) := by rw [HC.out, hlt]; exact rfl
    go_enter Tryz.func33, Tryz.ntmps33
    go_wp2_with fail
    refine wp_region_held_drew (S := fun W => (W.cell? ⟨w.heap.size, 0, none⟩ = some (.int .i64 ro)) ∧ (W.cell? ⟨w.heap.size, 1, none⟩ = some (.int .i64 rp)) ∧ (W.cell? ⟨w.heap.size, 2, none⟩ = some (.bool rt)) ∧ (W.cell? ⟨w.heap.size, 3, none⟩ = some (.string rk)) ∧ (W.cell? ⟨w.heap.size, 4, none⟩ = some (.string rv)) ∧ (W.cell? ⟨w.heap.size, 5, none⟩ = some (.bool rd))) (by kernel_rfl) (HS.out _ (Below.refl _ W0).drew) (fun hHeld => ?_)
    refine tk 0 5 hHeld ?_
    try simp only [Act.put, p1, p2, p3]
    refine tk 1 6 hHeld ?_
    try simp only [Act.put, p1, p2, p3]
    refine tk 2 7 hHeld ?_
    try simp only [Act.put, p1, p2, p3]
    refine wpAnyH_ready (rs := [3]) (by kernel_rfl) (by simp) ?_
    refine AllReadyH.cons rfl (fun K hK => ?_) (AllReadyH.nil)
    go_simp
    go_wp2_with (go_at_call 15; (with_reducible_and_instances (refine HSt.out.mono ?_)); rintro x W1 ⟨rfl, hw1⟩; obtain rfl := hw1.symm)
    refine hK.out _ _ (HS.out _ (Below.refl _ W0).drew) (fun hHeld => ?_)
    clear hK K
    try simp only [Act.put, p1, p2, p3]
    refine tk 4 9 hHeld ?_
    try simp only [Act.put, p1, p2, p3]
    refine tk 5 10 hHeld ?_
    try simp only [Act.put, p1, p2, p3]
    refine sk 6 11 hHeld ?_
    try simp only [Act.put, p1, p2, p3]
    refine sk 7 12 hHeld ?_
    try simp only [Act.put, p1, p2, p3]
    refine sk 8 13 hHeld ?_
    try simp only [Act.put, p1, p2, p3]
    refine sk 9 14 hHeld ?_
    try simp only [Act.put, p1, p2, p3]
    refine tk 10 15 hHeld ?_
    try simp only [Act.put, p1, p2, p3]
    refine tk 11 4 hHeld ?_
    try simp only [Act.put, p1, p2, p3]
    refine wpAnyH_done (by kernel_rfl) ?_ _
    clear hHeld
    go_wp2_with fail
    go_ret
    exact ⟨by rw [HC2.out]; rfl, HB.out.trans (Below.refl _ W0).drew |>.mono (Nat.le_refl _)⟩
end Go.Proofs.YtfgamkcnnijloaaGreat
namespace Go.Proofs.YtfgamkcnnijloaaGreat
open Go.RowKit Go.Shelf
variable {w w' : World} {L t M n N : Nat} {vr vo va : Value} {g : Lg}

theorem own_off {α : Type} {K : Kd α} {base : Nat} {v : Value} {l : List α} {a : Option Addr} {m c b off : Nat} (h : OwnK K w base v l) (e : a = some ⟨b, off, none⟩) (hv : v = .slice a m c := by rfl) : off = 0 := by
  subst e hv
  rcases h.2 with ⟨e, -⟩ | ⟨g, cap, cur, e, -⟩
  · cases e
  · cases e; rfl
theorem last_off {CC : List Rw} {kc : Nat} (h : CC.length = kc) (hk : 0 < kc) : (CC.getLast?.map (·.off)).getD 0 = (CC.getD (kc - 1) rw0).off := by
  subst h
  rw [List.getLast?_eq_getElem?, List.getD_eq_getElem?_getD, List.getElem?_eq_getElem (by omega)]
  rfl
theorem fetG_true {a : Int} {mo : Nat} {fn st : Int} (h0 : 0 ≤ a) (h1 : g.start ≤ a) (h2 : a ≤ fn) (hm : 0 < mo) (hf : g.fin = fn) (hs : g.stable = st) : fetG g a (mo : Int) true = (if (chooseN g.comm mo (g.rows.filter (fun r => decide (a ≤ r.off)))).length = mo then (chooseN g.comm mo (g.rows.filter (fun r => decide (a ≤ r.off))), ((chooseN g.comm mo (g.rows.filter (fun r => decide (a ≤ r.off)))).getLast?.map (·.off)).getD 0 + 1, 0) else (chooseN g.comm mo (g.rows.filter (fun r => decide (a ≤ r.off))), if a < st then st else a, 0)) := by
  have e : (fun r => !true || (decide (r.off < g.stable) && !g.dead r)) = g.comm := by funext r; rfl
  unfold fetG
  rw [if_neg (by omega), if_neg (by omega), if_neg (by omega), if_neg (by omega)]
  simp only [Int.toNat_natCast, if_true]
  rw [e, hs]
theorem fetG_false {a : Int} {mo : Nat} {fn : Int} (h0 : 0 ≤ a) (h1 : g.start ≤ a) (h2 : a ≤ fn) (hm : 0 < mo) (hf : g.fin = fn) : fetG g a (mo : Int) false = (if (chooseN (fun _ => true) mo (g.rows.filter (fun r => decide (a ≤ r.off)))).length = mo then (chooseN (fun _ => true) mo (g.rows.filter (fun r => decide (a ≤ r.off))), ((chooseN (fun _ => true) mo (g.rows.filter (fun r => decide (a ≤ r.off)))).getLast?.map (·.off)).getD 0 + 1, 0) else (chooseN (fun _ => true) mo (g.rows.filter (fun r => decide (a ≤ r.off))), if a < fn then fn else a, 0)) := by
  have e : (fun r => !false || (decide (r.off < g.stable) && !g.dead r)) = (fun _ => true) := by funext r; rfl
  unfold fetG
  rw [if_neg (by omega), if_neg (by omega), if_neg (by omega), if_neg (by omega)]
  simp only [Int.toNat_natCast, e, Bool.false_eq_true, if_false, hf]
theorem choose_mem {α : Type} {p : α → Bool} {m : Nat} {l : List α} {x : α} (h : x ∈ chooseN p m l) : x ∈ l := by
  induction l generalizing m with
  | nil => cases m <;> cases h
  | cons a l ih =>
    cases m with
    | zero => cases h
    | succ m =>
      rw [choose_cons] at h
      split at h
      · rcases List.mem_cons.1 h with h | h
        · rw [h]; exact List.mem_cons_self
        · exact List.mem_cons_of_mem _ (ih h)
      · exact List.mem_cons_of_mem _ (ih h)
/-- Fetch's answers. -/
def fetV (v : Value) (x : List Rw × Int × Int) : Value := .tuple #[v, .int .i64 x.2.1, .int .i64 x.2.2]
set_option maxRecDepth 20000 in
set_option maxHeartbeats 2000000 in
theorem Fetch_true (h : LPic w L t M n N vr vo va g) (hrb : g.rows.length * 64 ≤ 140737488355328) (a : Int) (mo : Nat) (hA0 : 0 ≤ a) (hAs : g.start ≤ a) (fn st : Int) (hfn : g.fin = fn) (hst : g.stable = st) (hAf : a ≤ fn) (hM0 : 0 < mo) (hmo : mo ≤ 9223372036854775807) :
    Calls Tryz.prog 14 #[.pointer (some ⟨L, 0, none⟩), .int .i64 a, .int .i64 (mo : Int), .bool true] w fun x w' => ∃ v, x = .returned (fetV v (fetG g a (mo : Int) true)) ∧ OwnK kRw w' w.heap.size v (fetG g a (mo : Int) true).1 ∧ Below w.heap.size w w' := by
  have HP := hid h
  have HMd := hid (madeL_any h.c0)
  have c1 := h.c1
  have c2 := h.c2
  rw [hfn] at c2
  obtain ⟨sr, hsr⟩ : ∃ sr, g.start = sr := ⟨_, rfl⟩
  rw [hsr] at c1
  have hsz : g.rows.length < 4611686018427387904 := by omega
  have HFn := hid hfn
  have HSt := hid hst
  have HS9 : Hid (w.drew.cell? ⟨L, 2, none⟩ = some (.int .i64 fn)) := c2
  have lL := h.lt
  have HRng : Hid (∀ r ∈ chooseN g.comm mo (g.rows.filter (fun r => decide (a ≤ r.off))), 0 ≤ r.off ∧ r.off ≤ 281474976710656) := fun r hr => by
    have h1 := (List.mem_filter.1 (choose_mem hr)).1
    have h2 := h.ok.rows r h1
    have h3 := h.ok.fin
    have h4 := h.ok.start
    omega
  have da : decide (a < 0) = false := by simp; omega
  have dm : decide ((mo : Int) < 0) = false := by simp
  have ds : decide (a < sr) = false := by simp; omega
  have df : decide (fn < a) = false := by simp; omega
  have dz : ((mo : Int) == 0) = false := by simp; omega
  · clear h hfn hst hsr
    have HFe : Hid (fetG g a (mo : Int) true = (if (chooseN g.comm mo (g.rows.filter (fun r => decide (a ≤ r.off)))).length = mo then (chooseN g.comm mo (g.rows.filter (fun r => decide (a ≤ r.off))), ((chooseN g.comm mo (g.rows.filter (fun r => decide (a ≤ r.off)))).getLast?.map (·.off)).getD 0 + 1, 0) else (chooseN g.comm mo (g.rows.filter (fun r => decide (a ≤ r.off))), if a < st then st else a, 0))) := fetG_true hA0 hAs hAf hM0 HFn.out HSt.out
    have HCh : Hid (∀ W ad m c, Below w.heap.size w W → ArgK kRw W (g.rows.filter (fun r => decide (a ≤ r.off))) ad m c → Calls Tryz.prog 30 #[.slice ad m c, .int .i64 (mo : Int), .func (.func 33) #[.pointer (some ⟨L, 0, none⟩)] #[]] W fun e w' => ∃ v, e = .returned v ∧ OwnK kRw w' W.heap.size v (chooseN g.comm mo (g.rows.filter (fun r => decide (a ≤ r.off)))) ∧ Below W.heap.size W w') := fun W ad m c hW hA => by
      have hml : m ≤ g.rows.length := by rw [← hA.len]; exact List.length_filter_le _ _
      exact chooseComm L g.comm hA mo hmo (Nat.le_trans (Nat.mul_le_mul_right 64 hml) hrb) (fun W2 hW2 j hj => isCommitted_any ((HP.out.toLPic0.later hW).later hW2) _)
    generalize hCC : chooseN g.comm mo (g.rows.filter (fun r => decide (a ≤ r.off))) = CC at *
    obtain ⟨kc, hkc⟩ : ∃ kc, CC.length = kc := ⟨_, rfl⟩
    rw [hkc] at HFe
    have HKc := hid hkc
    clear hkc hCC
    by_cases hfull : kc = mo
    · subst hfull
      have hke : ((kc : Int) == (kc : Int)) = true := by simp
      rw [if_pos rfl] at HFe
      go_enter Tryz.func14, Tryz.ntmps14
      go_wp2_with (go_at_call 23; (with_reducible_and_instances (refine HMd.out.mono ?_)); rintro x w1 ⟨rfl, hw1⟩; obtain rfl := hw1.symm)
      refine wp_region_held_drew (S := fun W => W.cell? ⟨L, 2, none⟩ = some (.int .i64 fn)) (by kernel_rfl) (HS9.out) (fun hHeld => ?_)
      refine tk 0 42 hHeld ?_
      try simp only [Act.put, p1, p2, p3]
      refine tk 1 43 hHeld ?_
      try simp only [Act.put, p1, p2, p3]
      refine tk 2 44 hHeld ?_
      try simp only [Act.put, p1, p2, p3]
      refine tk 3 45 hHeld ?_
      try simp only [Act.put, p1, p2, p3]
      refine tk 4 11 hHeld ?_
      try simp only [Act.put, p1, p2, p3]
      refine tk 5 9 hHeld ?_
      try simp only [Act.put, p1, p2, p3]
      refine wpAnyH_done (by kernel_rfl) ?_ _
      clear hHeld
      have HPd := hid (HP.out.later (Below.refl _ w).drew)
      have HRf := hid (rowsFrom_any HPd.out hsz a)
      have HStb := hid (stable_any HPd.out.toLPic0)
      rw [HSt.out] at HStb
      have hmf : ∀ (fn : Fn) (first cap : Array Value) (w : World), (Instr.makeFunc fn first cap).run Tryz.prog w = .ok (.func fn first cap) w := fun _ _ _ _ => rfl
      go_wp2_with (first
        | (go_at_call 15; (with_reducible_and_instances (refine HStb.out.mono ?_)); rintro x w2 ⟨rfl, hw2⟩; obtain rfl := hw2.symm)
        | (go_at_call 34; (with_reducible_and_instances (refine HRf.out.mono ?_)); rintro x w3 ⟨ad3, m3, c3, rfl, ha3, hb3⟩; have HB3 := hid ((Below.refl _ w).drew.trans hb3); have HC3 := hid (HCh.out w3 ad3 m3 c3 HB3.out ha3); clear ha3 hb3)
        | (go_at_call 30; (with_reducible_and_instances (refine HC3.out.mono ?_)); rintro x w4 ⟨v4, rfl, ho4, hb4⟩; obtain ⟨ad4, c4, hv4, ha4⟩ := ho4.form kRw_ok.tofit; rw [HKc.out] at hv4 ha4; subst hv4; have HO4 := hid (ho4.mono HB3.out.size); have HA4 := hid ha4; have HB4 := hid (HB3.out.trans (hb4.mono HB3.out.size)); clear ho4 ha4 hb4))
      obtain ⟨bq, off4, e4, hbq, hcl⟩ := HA4.out.cells (by omega)
      obtain ⟨lo, hlo⟩ : ∃ lo, (CC.getD (kc - 1) rw0).off = lo := ⟨_, rfl⟩
      have ho0 : off4 = 0 := own_off HO4.out e4
      subst e4 ho0
      have r0 : w4.cell? ⟨bq, (kc - 1) * 6, none⟩ = some (.int .i64 lo) := by have := hcl (kc - 1) (by omega) 0 (by decide); rw [← hlo]; simpa [rwV] using this
      have HS14 : Hid (w4.drew.cell? ⟨bq, (kc - 1) * 6, none⟩ = some (.int .i64 lo)) := r0
      have hlast : (CC.getLast?.map (·.off)).getD 0 = lo := by rw [← hlo]; exact last_off HKc.out (by omega)
      rw [hlast] at HFe
      have hwl : IntKind.i64.wrap (lo + 1) = lo + 1 := by
        have hmem : CC.getD (kc - 1) rw0 ∈ CC := getD_mem_any CC rw0 (kc - 1) (by rw [HKc.out]; omega)
        have hr := HRng.out _ hmem
        rw [hlo] at hr
        rw [IntKind.wrap_i64]; omega
      have hk1 : ((kc : Int) - 1).toNat = kc - 1 := by omega
      have hk2 : IntKind.i64.wrap ((kc : Int) - 1) = (kc : Int) - 1 := by rw [IntKind.wrap_i64]; omega
      have hk3 : (0 : Int) ≤ (kc : Int) - 1 := by omega
      have hk5 : (1 : Int) ≤ (kc : Int) := by omega
      have hk4 : (kc : Int) - 1 < (kc : Int) := by omega
      clear hcl hbq hlo hlast
      refine wp_region_held_drew (S := fun W => W.cell? ⟨bq, (kc - 1) * 6, none⟩ = some (.int .i64 lo)) (by kernel_rfl) (HS14.out) (fun hHeld => ?_)
      refine tk 0 61 hHeld ?_
      try simp only [Act.put, p1, p2, p3]
      refine tk 1 62 hHeld ?_
      try simp only [Act.put, p1, p2, p3]
      refine tk 2 63 hHeld ?_
      try simp only [Act.put, p1, p2, p3]
      refine tk 3 64 hHeld ?_
      try simp only [Act.put, p1, p2, p3]
      refine tk 4 65 hHeld ?_
      try simp only [Act.put, p1, p2, p3]
      refine tk 5 66 hHeld ?_
      try simp only [Act.put, p1, p2, p3]
      refine tk 6 67 hHeld ?_
      try simp only [Act.put, p1, p2, p3]
      refine tk 7 68 hHeld ?_
      try simp only [Act.put, p1, p2, p3]
      refine tk 8 8 hHeld ?_
      try simp only [Act.put, p1, p2, p3]
      refine tk 9 9 hHeld ?_
      try simp only [Act.put, p1, p2, p3]
      refine tk 10 10 hHeld ?_
      try simp only [Act.put, p1, p2, p3]
      refine wpAnyH_done (by kernel_rfl) ?_ _
      clear hHeld
      go_wp2_with fail
      refine bodyPost_ret (results_tmp3 Tryz.results14 _ _ _) rfl ⟨_, by rw [HFe.out]; rfl, by rw [HFe.out]; exact HO4.out.later (Below.refl _ w4).drew, HB4.out.drew⟩
    · have hke : ((kc : Int) == (mo : Int)) = false := by simp; omega
      rw [if_neg hfull] at HFe
      obtain ⟨nx, hnx⟩ : ∃ nx, (if a < st then st else a) = nx := ⟨_, rfl⟩
      rw [hnx] at HFe
      have HMx : Hid (max a st = nx) := (by rw [← hnx, Int.max_def]; show (if a ≤ st then st else a) = _; split <;> split <;> omega)
      clear hnx
      go_enter Tryz.func14, Tryz.ntmps14
      go_wp2_with (go_at_call 23; (with_reducible_and_instances (refine HMd.out.mono ?_)); rintro x w1 ⟨rfl, hw1⟩; obtain rfl := hw1.symm)
      refine wp_region_held_drew (S := fun W => W.cell? ⟨L, 2, none⟩ = some (.int .i64 fn)) (by kernel_rfl) (HS9.out) (fun hHeld => ?_)
      refine tk 0 42 hHeld ?_
      try simp only [Act.put, p1, p2, p3]
      refine tk 1 43 hHeld ?_
      try simp only [Act.put, p1, p2, p3]
      refine tk 2 44 hHeld ?_
      try simp only [Act.put, p1, p2, p3]
      refine tk 3 45 hHeld ?_
      try simp only [Act.put, p1, p2, p3]
      refine tk 4 11 hHeld ?_
      try simp only [Act.put, p1, p2, p3]
      refine tk 5 9 hHeld ?_
      try simp only [Act.put, p1, p2, p3]
      refine wpAnyH_done (by kernel_rfl) ?_ _
      clear hHeld
      have HPd := hid (HP.out.later (Below.refl _ w).drew)
      have HRf := hid (rowsFrom_any HPd.out hsz a)
      have HStb := hid (stable_any HPd.out.toLPic0)
      rw [HSt.out] at HStb
      have hmf : ∀ (fn : Fn) (first cap : Array Value) (w : World), (Instr.makeFunc fn first cap).run Tryz.prog w = .ok (.func fn first cap) w := fun _ _ _ _ => rfl
      go_wp2_with (first
        | (go_at_call 15; (with_reducible_and_instances (refine HStb.out.mono ?_)); rintro x w2 ⟨rfl, hw2⟩; obtain rfl := hw2.symm)
        | (go_at_call 34; (with_reducible_and_instances (refine HRf.out.mono ?_)); rintro x w3 ⟨ad3, m3, c3, rfl, ha3, hb3⟩; have HB3 := hid ((Below.refl _ w).drew.trans hb3); have HC3 := hid (HCh.out w3 ad3 m3 c3 HB3.out ha3); clear ha3 hb3)
        | (go_at_call 30; (with_reducible_and_instances (refine HC3.out.mono ?_)); rintro x w4 ⟨v4, rfl, ho4, hb4⟩; obtain ⟨ad4, c4, hv4, ha4⟩ := ho4.form kRw_ok.tofit; rw [HKc.out] at hv4 ha4; subst hv4; have HO4 := hid (ho4.mono HB3.out.size); have HA4 := hid ha4; have HB4 := hid (HB3.out.trans (hb4.mono HB3.out.size)); clear ho4 ha4 hb4))
      refine bodyPost_ret (results_tmp3 Tryz.results14 _ _ _) rfl ⟨_, by rw [HFe.out, ← HMx.out]; rfl, by rw [HFe.out]; exact HO4.out, HB4.out⟩
set_option maxRecDepth 20000 in
set_option maxHeartbeats 2000000 in
theorem Fetch_false (h : LPic w L t M n N vr vo va g) (hrb : g.rows.length * 64 ≤ 140737488355328) (a : Int) (mo : Nat) (hA0 : 0 ≤ a) (hAs : g.start ≤ a) (fn st : Int) (hfn : g.fin = fn) (hst : g.stable = st) (hAf : a ≤ fn) (hM0 : 0 < mo) (hmo : mo ≤ 9223372036854775807) :
    Calls Tryz.prog 14 #[.pointer (some ⟨L, 0, none⟩), .int .i64 a, .int .i64 (mo : Int), .bool false] w fun x w' => ∃ v, x = .returned (fetV v (fetG g a (mo : Int) false)) ∧ OwnK kRw w' w.heap.size v (fetG g a (mo : Int) false).1 ∧ Below w.heap.size w w' := by
  have HP := hid h
  have HMd := hid (madeL_any h.c0)
  have c1 := h.c1
  have c2 := h.c2
  rw [hfn] at c2
  obtain ⟨sr, hsr⟩ : ∃ sr, g.start = sr := ⟨_, rfl⟩
  rw [hsr] at c1
  have hsz : g.rows.length < 4611686018427387904 := by omega
  have HFn := hid hfn
  have HSt := hid hst
  have HS9 : Hid (w.drew.cell? ⟨L, 2, none⟩ = some (.int .i64 fn)) := c2
  have lL := h.lt
  have HRng : Hid (∀ r ∈ chooseN (fun _ => true) mo (g.rows.filter (fun r => decide (a ≤ r.off))), 0 ≤ r.off ∧ r.off ≤ 281474976710656) := fun r hr => by
    have h1 := (List.mem_filter.1 (choose_mem hr)).1
    have h2 := h.ok.rows r h1
    have h3 := h.ok.fin
    have h4 := h.ok.start
    omega
  have da : decide (a < 0) = false := by simp; omega
  have dm : decide ((mo : Int) < 0) = false := by simp
  have ds : decide (a < sr) = false := by simp; omega
  have df : decide (fn < a) = false := by simp; omega
  have dz : ((mo : Int) == 0) = false := by simp; omega
  · clear h hfn hst hsr
    have HFe : Hid (fetG g a (mo : Int) false = (if (chooseN (fun _ => true) mo (g.rows.filter (fun r => decide (a ≤ r.off)))).length = mo then (chooseN (fun _ => true) mo (g.rows.filter (fun r => decide (a ≤ r.off))), ((chooseN (fun _ => true) mo (g.rows.filter (fun r => decide (a ≤ r.off)))).getLast?.map (·.off)).getD 0 + 1, 0) else (chooseN (fun _ => true) mo (g.rows.filter (fun r => decide (a ≤ r.off))), if a < fn then fn else a, 0))) := fetG_false hA0 hAs hAf hM0 HFn.out
    have HCh : Hid (∀ W ad m c, Below w.heap.size w W → ArgK kRw W (g.rows.filter (fun r => decide (a ≤ r.off))) ad m c → Calls Tryz.prog 30 #[.slice ad m c, .int .i64 (mo : Int), .func (.func 32) #[] #[]] W fun e w' => ∃ v, e = .returned v ∧ OwnK kRw w' W.heap.size v (chooseN (fun _ => true) mo (g.rows.filter (fun r => decide (a ≤ r.off)))) ∧ Below W.heap.size W w') := fun W ad m c hW hA => by
      have hml : m ≤ g.rows.length := by rw [← hA.len]; exact List.length_filter_le _ _
      exact chooseThere (fun _ => true) hA mo hmo (Nat.le_trans (Nat.mul_le_mul_right 64 hml) hrb) (fun W2 hW2 j hj => isThere_any _ _)
    generalize hCC : chooseN (fun _ => true) mo (g.rows.filter (fun r => decide (a ≤ r.off))) = CC at *
    obtain ⟨kc, hkc⟩ : ∃ kc, CC.length = kc := ⟨_, rfl⟩
    rw [hkc] at HFe
    have HKc := hid hkc
    clear hkc hCC
    by_cases hfull : kc = mo
    · subst hfull
      have hke : ((kc : Int) == (kc : Int)) = true := by simp
      rw [if_pos rfl] at HFe
      go_enter Tryz.func14, Tryz.ntmps14
      go_wp2_with (go_at_call 23; (with_reducible_and_instances (refine HMd.out.mono ?_)); rintro x w1 ⟨rfl, hw1⟩; obtain rfl := hw1.symm)
      refine wp_region_held_drew (S := fun W => W.cell? ⟨L, 2, none⟩ = some (.int .i64 fn)) (by kernel_rfl) (HS9.out) (fun hHeld => ?_)
      refine tk 0 42 hHeld ?_
      try simp only [Act.put, p1, p2, p3]
      refine tk 1 43 hHeld ?_
      try simp only [Act.put, p1, p2, p3]
      refine tk 2 44 hHeld ?_
      try simp only [Act.put, p1, p2, p3]
      refine tk 3 45 hHeld ?_
      try simp only [Act.put, p1, p2, p3]
      refine tk 4 11 hHeld ?_
      try simp only [Act.put, p1, p2, p3]
      refine tk 5 9 hHeld ?_
      try simp only [Act.put, p1, p2, p3]
      refine wpAnyH_done (by kernel_rfl) ?_ _
      clear hHeld
      have HPd := hid (HP.out.later (Below.refl _ w).drew)
      have HRf := hid (rowsFrom_any HPd.out hsz a)
      go_wp2_with (first
        | (go_at_call 34; (with_reducible_and_instances (refine HRf.out.mono ?_)); rintro x w3 ⟨ad3, m3, c3, rfl, ha3, hb3⟩; have HB3 := hid ((Below.refl _ w).drew.trans hb3); have HC3 := hid (HCh.out w3 ad3 m3 c3 HB3.out ha3); clear ha3 hb3)
        | (go_at_call 30; (with_reducible_and_instances (refine HC3.out.mono ?_)); rintro x w4 ⟨v4, rfl, ho4, hb4⟩; obtain ⟨ad4, c4, hv4, ha4⟩ := ho4.form kRw_ok.tofit; rw [HKc.out] at hv4 ha4; subst hv4; have HO4 := hid (ho4.mono HB3.out.size); have HA4 := hid ha4; have HB4 := hid (HB3.out.trans (hb4.mono HB3.out.size)); clear ho4 ha4 hb4))
      obtain ⟨bq, off4, e4, hbq, hcl⟩ := HA4.out.cells (by omega)
      obtain ⟨lo, hlo⟩ : ∃ lo, (CC.getD (kc - 1) rw0).off = lo := ⟨_, rfl⟩
      have ho0 : off4 = 0 := own_off HO4.out e4
      subst e4 ho0
      have r0 : w4.cell? ⟨bq, (kc - 1) * 6, none⟩ = some (.int .i64 lo) := by have := hcl (kc - 1) (by omega) 0 (by decide); rw [← hlo]; simpa [rwV] using this
      have HS14 : Hid (w4.drew.cell? ⟨bq, (kc - 1) * 6, none⟩ = some (.int .i64 lo)) := r0
      have hlast : (CC.getLast?.map (·.off)).getD 0 = lo := by rw [← hlo]; exact last_off HKc.out (by omega)
      rw [hlast] at HFe
      have hwl : IntKind.i64.wrap (lo + 1) = lo + 1 := by
        have hmem : CC.getD (kc - 1) rw0 ∈ CC := getD_mem_any CC rw0 (kc - 1) (by rw [HKc.out]; omega)
        have hr := HRng.out _ hmem
        rw [hlo] at hr
        rw [IntKind.wrap_i64]; omega
      have hk1 : ((kc : Int) - 1).toNat = kc - 1 := by omega
      have hk2 : IntKind.i64.wrap ((kc : Int) - 1) = (kc : Int) - 1 := by rw [IntKind.wrap_i64]; omega
      have hk3 : (0 : Int) ≤ (kc : Int) - 1 := by omega
      have hk5 : (1 : Int) ≤ (kc : Int) := by omega
      have hk4 : (kc : Int) - 1 < (kc : Int) := by omega
      clear hcl hbq hlo hlast
      refine wp_region_held_drew (S := fun W => W.cell? ⟨bq, (kc - 1) * 6, none⟩ = some (.int .i64 lo)) (by kernel_rfl) (HS14.out) (fun hHeld => ?_)
      refine tk 0 61 hHeld ?_
      try simp only [Act.put, p1, p2, p3]
      refine tk 1 62 hHeld ?_
      try simp only [Act.put, p1, p2, p3]
      refine tk 2 63 hHeld ?_
      try simp only [Act.put, p1, p2, p3]
      refine tk 3 64 hHeld ?_
      try simp only [Act.put, p1, p2, p3]
      refine tk 4 65 hHeld ?_
      try simp only [Act.put, p1, p2, p3]
      refine tk 5 66 hHeld ?_
      try simp only [Act.put, p1, p2, p3]
      refine tk 6 67 hHeld ?_
      try simp only [Act.put, p1, p2, p3]
      refine tk 7 68 hHeld ?_
      try simp only [Act.put, p1, p2, p3]
      refine tk 8 8 hHeld ?_
      try simp only [Act.put, p1, p2, p3]
      refine tk 9 9 hHeld ?_
      try simp only [Act.put, p1, p2, p3]
      refine tk 10 10 hHeld ?_
      try simp only [Act.put, p1, p2, p3]
      refine wpAnyH_done (by kernel_rfl) ?_ _
      clear hHeld
      go_wp2_with fail
      refine bodyPost_ret (results_tmp3 Tryz.results14 _ _ _) rfl ⟨_, by rw [HFe.out]; rfl, by rw [HFe.out]; exact HO4.out.later (Below.refl _ w4).drew, HB4.out.drew⟩
    · have hke : ((kc : Int) == (mo : Int)) = false := by simp; omega
      rw [if_neg hfull] at HFe
      obtain ⟨nx, hnx⟩ : ∃ nx, (if a < fn then fn else a) = nx := ⟨_, rfl⟩
      rw [hnx] at HFe
      have HMx : Hid (max a fn = nx) := (by rw [← hnx, Int.max_def]; show (if a ≤ fn then fn else a) = _; split <;> split <;> omega)
      clear hnx
      go_enter Tryz.func14, Tryz.ntmps14
      go_wp2_with (go_at_call 23; (with_reducible_and_instances (refine HMd.out.mono ?_)); rintro x w1 ⟨rfl, hw1⟩; obtain rfl := hw1.symm)
      refine wp_region_held_drew (S := fun W => W.cell? ⟨L, 2, none⟩ = some (.int .i64 fn)) (by kernel_rfl) (HS9.out) (fun hHeld => ?_)
      refine tk 0 42 hHeld ?_
      try simp only [Act.put, p1, p2, p3]
      refine tk 1 43 hHeld ?_
      try simp only [Act.put, p1, p2, p3]
      refine tk 2 44 hHeld ?_
      try simp only [Act.put, p1, p2, p3]
      refine tk 3 45 hHeld ?_
      try simp only [Act.put, p1, p2, p3]
      refine tk 4 11 hHeld ?_
      try simp only [Act.put, p1, p2, p3]
      refine tk 5 9 hHeld ?_
      try simp only [Act.put, p1, p2, p3]
      refine wpAnyH_done (by kernel_rfl) ?_ _
      clear hHeld
      have HPd := hid (HP.out.later (Below.refl _ w).drew)
      have HRf := hid (rowsFrom_any HPd.out hsz a)
      go_wp2_with (first
        | (go_at_call 34; (with_reducible_and_instances (refine HRf.out.mono ?_)); rintro x w3 ⟨ad3, m3, c3, rfl, ha3, hb3⟩; have HB3 := hid ((Below.refl _ w).drew.trans hb3); have HC3 := hid (HCh.out w3 ad3 m3 c3 HB3.out ha3); clear ha3 hb3)
        | (go_at_call 30; (with_reducible_and_instances (refine HC3.out.mono ?_)); rintro x w4 ⟨v4, rfl, ho4, hb4⟩; obtain ⟨ad4, c4, hv4, ha4⟩ := ho4.form kRw_ok.tofit; rw [HKc.out] at hv4 ha4; subst hv4; have HO4 := hid (ho4.mono HB3.out.size); have HA4 := hid ha4; have HB4 := hid (HB3.out.trans (hb4.mono HB3.out.size)); clear ho4 ha4 hb4))
      refine bodyPost_ret (results_tmp3 Tryz.results14 _ _ _) rfl ⟨_, by rw [HFe.out, ← HMx.out]; rfl, by rw [HFe.out]; exact HO4.out, HB4.out⟩
end Go.Proofs.YtfgamkcnnijloaaGreat
