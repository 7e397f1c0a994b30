/- leftovers of package store where all behind the end is zeros: no round. -/
import Derived.Test.YtikomnbhmmjfnaaGreatSOpen0
import Derived.Test.YtikomnbhmmjfnaaGreatSSealP
namespace Go.Proofs.YtikomnbhmmjfnaaGreat
open Go.RowKit Go.Shelf
attribute [local go_sem] Oper.semAt_some
variable {w w' : World} {FD G : List Nat} {S D X Y : Nat} {fx fy : Lit → Option Value} {A : Nat → Nat → Value} {s : SSt}

/-- In Z the store is as it was. -/
def LK (G : List Nat) (S D X Y : Nat) (fx fy : Lit → Option Value) (A : Nat → Nat → Value) (s : SSt) (Z : World) : Prop := ∃ FD', SPic Z FD' G S D X Y fx fy A s
theorem enters_left : ∀ args w, (callFunc 83 args).run Tryz.prog w = .ok (.enter 83 args) w := enters_of Tryz.func83 (by kernel_rfl) rfl
set_option maxRecDepth 100000 in
set_option maxHeartbeats 400000 in
theorem left0_seq (g : Nat) (Kp : World → World → Prop) (R : Nat → Array Value → World → Prop) (hg : g < w.heap.size) (cg : w.cell? ⟨g, 0, none⟩ = some (.pointer (some ⟨S, 0, none⟩))) (hz : ∀ i : Nat, s.fin ≤ i → i < s.d.bs.length → holdsD s.d (i : Int) zeros = true) :
    SeqR Tryz.prog 83 #[.pointer (some ⟨g, 0, none⟩)] Kp (fun _ Z => LK G S D X Y fx fy A s Z) R 0 w := by
  intro l J Jx W hW hJ _ hK _ h0
  obtain ⟨FD', hp⟩ := hK 0 W h0
  have hfl := hp.fin_le
  have n2 := hp.disk.n2
  have cW := (hW.cell (p := ⟨g, 0, none⟩) hg).trans cg
  have hgW : g < W.heap.size := Nat.lt_of_lt_of_le hg hW.size
  have hSW := hp.ltS
  obtain ⟨ZB, hZB⟩ : ∃ ZB : Obj, ZB = .cells (madeCells #[Value.int .u8 0] 256) 5 := ⟨_, rfl⟩
  have hmk : ∀ W : World, (Instr.makeSlice 28 (.int .i64 256) (.int .i64 256)).run Tryz.prog W = .ok (.slice (some ⟨W.heap.size, 0, none⟩) 256 256) (W.alloc ZB) := fun W => by
    rw [hZB]
    exact run_make_row' 28 5 (.int .u8 0) 1 Tryz.underlying28 Tryz.info5 rfl .i64 .i64 256 (by omega) (by omega) W
  have bz : Below W.heap.size W (W.alloc ZB) := (Below.refl _ _).alloc (Nat.le_refl _) _
  have HZ : Hid (Part.ok (W.alloc ZB) ⟨some ⟨W.heap.size, 0, none⟩, 256, 256, zeros⟩) := (show Hid _ from by rw [hZB]; exact made_ok W 256 (by omega))
  have HF : Hid (∀ Z, Below (W.alloc ZB).heap.size (W.alloc ZB) Z → Z.cell? ⟨g, 0, none⟩ = some (.pointer (some ⟨S, 0, none⟩)) ∧ Z.cell? ⟨S, 4, none⟩ = some (.int .i64 (s.fin : Int)) ∧ Z.cell? ⟨S, 0, none⟩ = some (.pointer (some ⟨D, 0, none⟩)) ∧ Hid (SPic Z FD' G S D X Y fx fy A s ∧ Part.ok Z ⟨some ⟨W.heap.size, 0, none⟩, 256, 256, zeros⟩)) := fun Z hZ => by
    have hbZ : Below W.heap.size W Z := bz.trans (hZ.mono (by simp))
    obtain ⟨d0, -, -, -, d4, -⟩ := (hp.below hbZ).cells
    exact ⟨(hbZ.cell (p := ⟨g, 0, none⟩) hgW).trans cW, d4, d0, hp.below hbZ, HZ.out.later hZ⟩
  have HJ0 := hide (fun Z (hZ : Below (W.alloc ZB).heap.size (W.alloc ZB) Z) => hJ 0 W Z h0 (bz.trans (hZ.mono (by simp))))
  have HZz := hide hz
  have HBl : Hid (∀ Z, SPic Z FD' G S D X Y fx fy A s → Calls Tryz.prog 43 #[.pointer (some ⟨D, 0, none⟩)] Z fun e w' => e = .returned (.int .i64 (s.d.bs.length : Nat)) ∧ w' = Z) := fun Z hp' => by
    obtain ⟨B, M, Dm, V, C, hd⟩ := hp'.disk
    exact blocks_pic hd
  obtain ⟨q0, q4, qD, HQ⟩ := HF.out (W.alloc ZB) (Below.refl _ _)
  generalize s.d.bs.length = nb at *
  clear hp hW hJ hK h0 cg cW hz hZB bz
  refine callsIn_of_wp Tryz.func83 rfl trivial ?_ rfl
  simp only [Tryz.ntmps83, List.size_toArray, List.length_cons, List.length_nil, Nat.reduceAdd, Nat.reduceSub, Array.replicate_succ, Array.replicate_zero, List.push_toArray, List.append_toArray, List.nil_append, List.cons_append]
  gi_wp2
  gi_loopw [4] (fun i wr => ∃ k : Nat, s.fin ≤ k ∧ k ≤ 4096 ∧ i = .int .i64 k ∧ Hid (Below (W.alloc ZB).heap.size (W.alloc ZB) wr)) (fun i _ => 5000 - (intOf i).toNat)
  case atStart => exact ⟨s.fin, Nat.le_refl _, hfl, rfl, hide (Below.refl _ _)⟩
  case round =>
    obtain ⟨k, hk1, hk2, rfl, HB⟩ := hrel
    obtain ⟨p0, p4, pD, HP⟩ := HF.out wr HB.out
    have hbl := HBl.out wr HP.out.1
    by_cases hlt : k < nb
    · have hho := holds_pic HP.out.1 (k : Int) _ 256 256 zeros HP.out.2
      rw [HZz.out k hk1 hlt] at hho
      gi_wp2_with (first
        | (refine ⟨trivial, ?_⟩; gi_at_call 43; refine (callsIn_wide.2 hbl).mono ?_; rintro e w' ⟨rfl, hw'⟩; obtain rfl := hw'.symm)
        | (refine ⟨trivial, ?_⟩; gi_at_call 84; refine (callsIn_wide.2 hho).mono ?_; rintro e w3 ⟨rfl, hb3⟩; have HB3 := hide (HB.out.trans (hb3.mono HB.out.size)); clear hb3))
      refine ⟨fun _ h => (by cases h), ?_⟩
      gi_wp2
      go_roundw
      case rel => exact ⟨k + 1, by omega, by omega, by go_num, HB3⟩
      case measure => simp [intOf]; omega
    · gi_wp2_with (refine ⟨trivial, ?_⟩; gi_at_call 43; refine (callsIn_wide.2 hbl).mono ?_; rintro e w' ⟨rfl, hw'⟩; obtain rfl := hw'.symm)
      go_end0
      exact ⟨⟨_, rfl⟩, .inl (HJ0.out _ HB.out)⟩
end Go.Proofs.YtikomnbhmmjfnaaGreat
