/- What really happens, one by one: as plain data; that it may be and can have been (P2005). -/
import Derived.Test.YtpjemifoilbjeaaHyL
namespace Go.Proofs.Ytpjemifoilbjeaa
namespace Hy

structure Ac where
  rd : Bool
  hd : Bool
  ah : Int
  be : Int
def md (z : Int) : Int := z.tmod 5000 % 5000
theorem md_bd (z : Int) : 0 ≤ md z ∧ md z < 5000 ∧ -5000 < z.tmod 5000 ∧ z.tmod 5000 < 5000 := by
  have h1 := Int.tmod_lt_of_pos z (b := 5000) (by omega)
  have h2 := Int.lt_tmod_of_pos z (b := 5000) (by omega)
  unfold md
  omega
def nmI (i : Nat) : Nm := [UInt8.ofNat (97 + i % 26), UInt8.ofNat (97 + i / 26)]
def tI (i : Nat) : Int := 1000 * ((i : Int) + 1)
def bgI (i : Nat) (a : Ac) : Int := max 0 (tI i - md a.ah)
def enI (i : Nat) (a : Ac) : Int := tI i + 1 + md a.be
def hcI (i : Nat) (a : Ac) (log : List Nm) : Hc := if a.hd then ⟨a.rd, false, bgI i a, 0, 0, if a.rd then [] else nmI i, []⟩ else ⟨a.rd, true, bgI i a, enI i a, if a.rd then 0 else log.length, if a.rd then [] else nmI i, if a.rd then log else []⟩
def logI (i : Nat) (a : Ac) (log : List Nm) : List Nm := if a.rd then log else log ++ [nmI i]
def hapN : Nat → List Nm → List Ac → List Hc
  | _, _, [] => []
  | i, log, a :: l => hcI i a log :: hapN (i + 1) (logI i a log) l
def logH : Nat → List Nm → List Ac → List Nm
  | _, log, [] => log
  | i, log, a :: l => logH (i + 1) (logI i a log) l
theorem hapN_snoc : ∀ (l : List Ac) (i : Nat) (log : List Nm) (a : Ac), hapN i log (l ++ [a]) = hapN i log l ++ [hcI (i + l.length) a (logH i log l)]
  | [], i, log, a => rfl
  | b :: l, i, log, a => by
    show hcI i b log :: hapN (i + 1) (logI i b log) (l ++ [a]) = _
    rw [hapN_snoc l]
    show _ = hcI i b log :: (hapN (i + 1) (logI i b log) l ++ [hcI (i + (l.length + 1)) a (logH (i + 1) (logI i b log) l)])
    rw [show i + 1 + l.length = i + (l.length + 1) by omega]
theorem logH_snoc : ∀ (l : List Ac) (i : Nat) (log : List Nm) (a : Ac), logH i log (l ++ [a]) = logI (i + l.length) a (logH i log l)
  | [], i, log, a => rfl
  | b :: l, i, log, a => by
    show logH (i + 1) (logI i b log) (l ++ [a]) = _
    rw [logH_snoc l]
    show logI (i + 1 + l.length) a _ = logI (i + (l.length + 1)) a (logH (i + 1) (logI i b log) l)
    rw [show i + 1 + l.length = i + (l.length + 1) by omega]
theorem hapN_len : ∀ (l : List Ac) (i : Nat) (log : List Nm), (hapN i log l).length = l.length
  | [], _, _ => rfl
  | _ :: l, i, log => by show (hapN _ _ l).length + 1 = _; rw [hapN_len l]; rfl
theorem logI_len (i : Nat) (a : Ac) (log : List Nm) : (logI i a log).length ≤ log.length + 1 := by unfold logI; split <;> simp
theorem logH_len : ∀ (l : List Ac) (i : Nat) (log : List Nm), (logH i log l).length ≤ log.length + l.length
  | [], _, _ => Nat.le_refl _
  | a :: l, i, log => by
    have h1 := logH_len l (i + 1) (logI i a log)
    have h2 := logI_len i a log
    show (logH (i + 1) (logI i a log) l).length ≤ log.length + (l.length + 1)
    omega
theorem nmI_inj {i j : Nat} (hi : i < 2000) (hj : j < 2000) (h : nmI i = nmI j) : i = j := by
  unfold nmI at h
  simp only [List.cons.injEq, and_true] at h
  have h1 := congrArg UInt8.toNat h.1
  have h2 := congrArg UInt8.toNat h.2
  simp only [UInt8.toNat_ofNat'] at h1 h2
  omega
theorem hcI_rd (i : Nat) (a : Ac) (log : List Nm) : (hcI i a log).rd = a.rd := by unfold hcI; split <;> rfl
theorem hcI_dn (i : Nat) (a : Ac) (log : List Nm) : (hcI i a log).dn = !a.hd := by unfold hcI; split <;> simp_all
theorem hcI_val (i : Nat) (a : Ac) (log : List Nm) : (hcI i a log).val = if a.rd then [] else nmI i := by unfold hcI; split <;> rfl
theorem hcI_bg (i : Nat) (a : Ac) (log : List Nm) : (hcI i a log).bg = bgI i a := by unfold hcI; split <;> rfl
theorem hcI_small {i : Nat} {a : Ac} {log : List Nm} (hl : log.length ≤ i) : (hcI i a log).val.length ≤ 2 ∧ (hcI i a log).vals.length ≤ i := by
  refine ⟨?_, ?_⟩
  · rw [hcI_val]; split <;> simp [nmI]
  · unfold hcI
    split
    · simp
    · show (if a.rd then log else []).length ≤ i
      split
      · exact hl
      · simp
theorem bgI_le (i : Nat) (a : Ac) : 0 ≤ bgI i a ∧ bgI i a ≤ tI i := by
  have := md_bd a.ah
  unfold bgI tI
  omega
theorem enI_ge (i : Nat) (a : Ac) : tI i < enI i a ∧ enI i a ≤ tI i + 5000 := by
  have := md_bd a.be
  unfold enI
  omega
theorem hcI_may {i : Nat} {a : Ac} {log : List Nm} (hi : i < 200) (hl : log.length ≤ i) : (hcI i a log).may = true := by
  have h1 := bgI_le i a
  have h2 := enI_ge i a
  have h3 : tI i ≤ 200000 := by unfold tI; omega
  obtain ⟨rd, hd, ah, be⟩ := a
  cases rd <;> cases hd <;> simp [hcI, Hc.may] <;> omega
theorem hap_apps : ∀ (l : List Ac) (i : Nat) (log : List Nm), i + l.length ≤ 2000 → (∀ v ∈ apps (hapN i log l), ∃ j, i ≤ j ∧ j < i + l.length ∧ v = nmI j) ∧ (apps (hapN i log l)).Nodup
  | [], i, log, _ => ⟨(fun v h => by cases h), List.nodup_nil⟩
  | a :: l, i, log, h => by
    have hl : (a :: l).length = l.length + 1 := rfl
    obtain ⟨h1, h2⟩ := hap_apps l (i + 1) (logI i a log) (by omega)
    have e : apps (hapN i log (a :: l)) = if a.rd then apps (hapN (i + 1) (logI i a log) l) else nmI i :: apps (hapN (i + 1) (logI i a log) l) := by
      show apps (hcI i a log :: hapN (i + 1) (logI i a log) l) = _
      rw [apps_cons, hcI_rd, hcI_val]
      cases a.rd <;> simp
    rw [e]
    cases hr : a.rd with
    | true =>
      simp only [if_true]
      refine ⟨fun v hv => ?_, h2⟩
      obtain ⟨j, a1, a2, a3⟩ := h1 v hv
      exact ⟨j, by omega, by omega, a3⟩
    | false =>
      simp only [Bool.false_eq_true, if_false]
      refine ⟨fun v hv => ?_, List.nodup_cons.2 ⟨fun hm => ?_, h2⟩⟩
      · rcases List.mem_cons.1 hv with rfl | hv
        · exact ⟨i, by omega, by omega, rfl⟩
        · obtain ⟨j, a1, a2, a3⟩ := h1 v hv
          exact ⟨j, by omega, by omega, a3⟩
      · obtain ⟨j, a1, a2, a3⟩ := h1 _ hm
        have := nmI_inj (by omega) (by omega) a3
        omega
theorem hap_mem : ∀ (l : List Ac) (i : Nat) (log : List Nm), log.length ≤ i → ∀ c ∈ hapN i log l, ∃ j a lg, i ≤ j ∧ j < i + l.length ∧ lg.length ≤ j ∧ c = hcI j a lg
  | [], _, _, _ => fun c h => nomatch h
  | a :: l, i, log, h => fun c hc => by
    have hl : (a :: l).length = l.length + 1 := rfl
    rcases List.mem_cons.1 hc with rfl | hc
    · exact ⟨i, a, log, Nat.le_refl _, by omega, h, rfl⟩
    · have := logI_len i a log
      obtain ⟨j, b, lg, h1, h2, h3, h4⟩ := hap_mem l (i + 1) (logI i a log) (by omega) c hc
      exact ⟨j, b, lg, by omega, by omega, h3, h4⟩
theorem hap_right {l : List Ac} (h : l.length ≤ 200) : Right (hapN 0 [] l) := by
  refine ⟨by rw [hapN_len]; omega, fun c hc => ?_, (hap_apps l 0 [] (by omega)).2⟩
  obtain ⟨j, a, lg, h1, h2, h3, rfl⟩ := hap_mem l 0 [] (Nat.le_refl _) c hc
  exact hcI_may (by omega) h3
theorem hap_pair : ∀ (l : List Ac) (i : Nat) (log : List Nm), log.length ≤ i → (hapN i log l).Pairwise Tm
  | [], _, _, _ => List.Pairwise.nil
  | a :: l, i, log, h => by
    have := logI_len i a log
    refine List.pairwise_cons.2 ⟨fun b hb hd => ?_, hap_pair l (i + 1) (logI i a log) (by omega)⟩
    obtain ⟨j, c, lg, h1, h2, h3, rfl⟩ := hap_mem l (i + 1) (logI i a log) (by omega) b hb
    rw [hcI_bg]
    rw [hcI_dn] at hd
    have e : (hcI j c lg).en = enI j c := by unfold hcI; rw [if_neg (by simpa using hd)]
    rw [e]
    have h4 := bgI_le i a
    have h5 := enI_ge j c
    unfold tI at *
    omega
def inO (c : Hc) : Bool := c.dn || !c.rd
theorem hap_plays : ∀ (l : List Ac) (i : Nat) (log : List Nm), plays log ((hapN i log l).filter inO)
  | [], _, _ => trivial
  | a :: l, i, log => by
    have ih := hap_plays l (i + 1) (logI i a log)
    show plays log ((hcI i a log :: hapN (i + 1) (logI i a log) l).filter inO)
    obtain ⟨rd, hd, ah, be⟩ := a
    cases rd <;> cases hd <;> simp [inO, hcI, plays] <;> simpa [logI] using ih
theorem hap_ok (l : List Ac) : HOk (hapN 0 [] l) := by
  refine ⟨(hapN 0 [] l).filter inO, (hapN 0 [] l).filter (fun c => !inO c), List.filter_append_perm _ _, fun c hc => ?_, fun c hc hr => ?_, hap_plays l 0 [], (hap_pair l 0 [] (Nat.le_refl _)).filter _⟩
  · have := (List.mem_filter.1 hc).2
    simp [inO] at this
    exact this.1
  · have := (List.mem_filter.1 hc).2
    simp [inO, hr] at this
    exact this
theorem right_perm {l m : List Hc} (h : l.Perm m) (hr : Right l) : Right m := ⟨by rw [← h.length_eq]; exact hr.1, fun c hc => hr.2.1 c (h.mem_iff.2 hc), (apps_perm h).nodup_iff.1 hr.2.2⟩
theorem ok_perm {l m : List Hc} (h : l.Perm m) (ho : HOk l) : HOk m := by
  obtain ⟨o, r, hp, h1, h2, h3, h4⟩ := ho
  exact ⟨o, r, hp.trans h, h1, h2, h3, h4⟩
end Hy
end Go.Proofs.Ytpjemifoilbjeaa
