/- What Open finds behind Saves: plain mathematics. -/
import Derived.Test.YtpmmpdkeahmdiaaSlotS
namespace Go.Proofs.Ytpmmpdkeahmdiaa
set_option maxRecDepth 100000

theorem leV_errB : ∀ (m n : Nat), n < 256 ^ m → leV (errB n m) = n
  | 0, n, h => by simp at h; subst h; rfl
  | m + 1, n, h => by
    have ih := leV_errB m (n / 256) (by rw [Nat.pow_succ] at h; omega)
    show n % 256 + 256 * leV (errB (n / 256) m) = n
    rw [ih]; omega
theorem lay_take {n : Nat} {xs : List Nat} : (laySec n xs).take 8 = errB n 8 := by
  unfold laySec front60
  rw [List.append_assoc]
  exact List.take_left' (errB_len n 8)
theorem lay_secN {n : Nat} {xs : List Nat} (hn : n < 18446744073709551616) : secN (laySec n xs) = n := by
  rw [secN, lay_take]; exact leV_errB 8 n hn
theorem lay_drop {n : Nat} {xs : List Nat} : (laySec n xs).drop 8 = (xs.length :: (xs ++ zeros (51 - xs.length))) ++ errB (sumOf (front60 n xs)) 4 := by
  unfold laySec
  conv => lhs; rw [front60]
  rw [List.append_assoc, List.drop_left' (errB_len n 8)]
  rfl
theorem lay_eight {n : Nat} {xs : List Nat} : (laySec n xs).getD 8 0 = xs.length := by
  have h := congrArg (·[0]?) (lay_drop (n := n) (xs := xs))
  simp only [List.getElem?_drop] at h
  rw [List.getD_eq_getElem?_getD, show (8 : Nat) = 8 + 0 from rfl, h]
  rfl
theorem lay_secV {n : Nat} {xs : List Nat} : secV (laySec n xs) = xs := by
  have h : (laySec n xs).drop 9 = (xs ++ zeros (51 - xs.length)) ++ errB (sumOf (front60 n xs)) 4 := by
    rw [show 9 = 8 + 1 from rfl, ← List.drop_drop, lay_drop]; rfl
  rw [secV, lay_eight, h, List.append_assoc]
  exact List.take_left' rfl
theorem lay_right {n : Nat} {xs : List Nat} (h0 : n ≠ 0) (hn : n < 18446744073709551616) (hl : xs.length ≤ 48) : RightS (laySec n xs) (n % 2) := by
  refine ⟨?_, ?_, ?_, ?_⟩
  · rw [lay_secN hn]; exact h0
  · rw [lay_secN hn]
  · rw [lay_eight]; exact hl
  · rw [lay_secN hn, lay_secV]
/-- What Open has of two sectors. -/
def openC (c0 c1 : Option (List Nat)) : Nat × List Nat := openStep (openStep (0, []) 0 c0) 1 c1
theorem openS_C (S : List Sec) (a : Int) : openS S a = openC (curOf S a 0) (curOf S a 1) := rfl
/-- A sector's number, 0 if it is not right. -/
def numC (i : Nat) (o : Option (List Nat)) : Nat := match o with | some bs => if RightS bs i then secN bs else 0 | none => 0
theorem step_num (st : Nat × List Nat) (i : Nat) (o : Option (List Nat)) : (openStep st i o).1 = max st.1 (numC i o) := by
  cases o with
  | none => simp [openStep, numC]
  | some bs =>
    unfold openStep numC
    by_cases h1 : RightS bs i
    · by_cases h2 : st.1 < secN bs
      · simp only [h1, h2, and_self, if_true]; omega
      · simp only [h1, h2, and_false, if_false, if_true]; omega
    · simp only [h1, false_and, if_false]; omega
theorem open_num (c0 c1 : Option (List Nat)) : (openC c0 c1).1 = max (numC 0 c0) (numC 1 c1) := by
  unfold openC
  rw [step_num, step_num]
  simp
theorem step_same {st : Nat × List Nat} {i : Nat} {o : Option (List Nat)} (h : numC i o ≤ st.1) : openStep st i o = st := by
  cases o with
  | none => rfl
  | some bs =>
    unfold openStep
    unfold numC at h
    by_cases h1 : RightS bs i
    · simp only [h1, if_true] at h
      simp only [show ¬ st.1 < secN bs by omega, and_false, if_false]
    · simp only [h1, false_and, if_false]
/-- A new greatest number in the sector that is not the last one's. -/
theorem open_new {c0 c1 : Option (List Nat)} {n : Nat} {xs : List Nat} (hn : n + 1 < 18446744073709551616) (hl : xs.length ≤ 48) (h0 : numC 0 c0 ≤ n) (h1 : numC 1 c1 ≤ n) :
    openC (if (n + 1) % 2 = 0 then some (laySec (n + 1) xs) else c0) (if (n + 1) % 2 = 1 then some (laySec (n + 1) xs) else c1) = (n + 1, xs) := by
  have hr := lay_right (n := n + 1) (xs := xs) (by omega) hn hl
  have hst : ∀ st : Nat × List Nat, st.1 ≤ n → openStep st ((n + 1) % 2) (some (laySec (n + 1) xs)) = (n + 1, xs) := fun st h => by
    unfold openStep
    simp only [lay_secN hn, lay_secV]
    rw [if_pos ⟨hr, by omega⟩]
  unfold openC
  rcases Nat.mod_two_eq_zero_or_one (n + 1) with h | h
  · rw [h] at hst
    rw [if_pos h, if_neg (by omega), hst (0, []) (by simp)]
    exact step_same (by show numC 1 c1 ≤ n + 1; omega)
  · rw [h] at hst
    rw [if_neg (by omega), if_pos h]
    refine hst _ ?_
    rw [step_num]
    show max 0 (numC 0 c0) ≤ n
    omega
theorem find_ne_key {S : List Sec} {a n : Int} {s : Sec} (h : findS a n S = some s) : s.area = a ∧ s.n = n := findS_at h
theorem cur_wr {S : List Sec} (hs : S.Pairwise Sec.before) (a n : Int) (v : List Nat) (a' n' : Int) : curOf (wr a n v S) a' n' = if a' = a ∧ n' = n then some v else curOf S a' n' := by
  unfold curOf
  rw [find_wr hs]
  split
  · unfold wrS
    cases findS a n S with
    | none => rfl
    | some s => simp [Sec.cur]
  · rfl
theorem cur_sy (a : Int) (S : List Sec) (a' n' : Int) : curOf (sy a S) a' n' = curOf S a' n' := by
  unfold curOf
  rw [find_sy]
  cases findS a' n' S with
  | none => rfl
  | some s =>
    simp only [Option.map_some, Option.bind_some]
    split
    · unfold syS Sec.cur
      simp only [List.getLast?_nil]
    · rfl
theorem pad_64 {v : List Nat} (h : v.length = 64) : pad v = v := by simp [pad, h]
theorem bytes_wr {S : List Sec} (h : ByteS S) {a n : Int} {v : List Nat} (hv : ∀ x ∈ v, x < 256) : ByteS (wr a n v S) := by
  intro s hs
  rcases wr_mem hs with h1 | ⟨_, _, ⟨h2, h3⟩ | ⟨t, ht, h2, h3⟩⟩
  · exact h s h1
  · refine ⟨fun u hu => (by rw [h2] at hu; cases hu), fun u hu => ?_⟩
    rw [h3] at hu
    rw [List.mem_singleton.1 hu]; exact hv
  · refine ⟨fun u hu => (by rw [h2] at hu; exact (h t ht).1 u hu), fun u hu => ?_⟩
    rw [h3] at hu
    rcases List.mem_append.1 hu with hu | hu
    · exact (h t ht).2 u hu
    · rw [List.mem_singleton.1 hu]; exact hv
theorem bytes_sy {S : List Sec} (h : ByteS S) (a : Int) : ByteS (sy a S) := by
  intro s hs
  obtain ⟨t, ht, rfl⟩ := List.mem_map.1 hs
  split
  · refine ⟨fun u hu => ?_, fun u hu => (by cases hu)⟩
    unfold syS Sec.cur at hu
    cases hl : t.fresh.getLast? with
    | none => simp [hl] at hu; exact (h t ht).1 u hu
    | some x => simp [hl] at hu; subst hu; exact (h t ht).2 _ (List.mem_of_getLast? hl)
  · exact h t ht
theorem new_bytes (room : Int) : ByteS (newD room).secs := fun s hs => by cases hs
/-- A Save on a disk that does what it must. -/
theorem save_well {d : DS} {a : Int} {n : Nat} {xs : List Nat} (hd : d.dead = false) (ha : d.armed = false) (hr : (d.secs.length : Int) < d.room) (hn : n + 1 < 18446744073709551616) (hl : xs.length ≤ 48) :
    saveD d a n xs = ({ stepD (stepD d) with secs := sy a (wr a (((n + 1) % 2 : Nat) : Int) (laySec (n + 1) xs) d.secs) }, 0) := by
  have hf : ¬ formBad (((n + 1) % 2 : Nat) : Int) (laySec (n + 1) xs) := by unfold formBad; rw [lay_len hl]; omega
  have hfull : ¬ fullBad d a (((n + 1) % 2 : Nat) : Int) := by unfold fullBad; rintro ⟨_, h⟩; omega
  have hst : ∀ d : DS, d.dead = false → d.armed = false → stepE d = 0 ∧ (stepD d).dead = false ∧ (stepD d).armed = false := fun d h1 h2 => by simp [stepE, stepD, h1, h2]
  obtain ⟨k1, k2, k3⟩ := hst d hd ha
  have e1 : wrE d a (((n + 1) % 2 : Nat) : Int) (laySec (n + 1) xs) = 0 := by
    unfold wrE; rw [hd, if_neg (by simp), if_neg hf, if_neg hfull, k1]
  have e2 : wrD d a (((n + 1) % 2 : Nat) : Int) (laySec (n + 1) xs) = { stepD d with secs := wr a (((n + 1) % 2 : Nat) : Int) (laySec (n + 1) xs) d.secs } := by
    unfold wrD; rw [hd, if_neg (by simp), if_neg hf, if_neg hfull, pad_64 (lay_len hl)]
  obtain ⟨j1, j2, j3⟩ := hst { stepD d with secs := wr a (((n + 1) % 2 : Nat) : Int) (laySec (n + 1) xs) d.secs } k2 k3
  unfold saveD
  rw [if_neg (by omega), if_pos e1, e2, j1]
  unfold syD
  rw [if_pos j1]
  congr 2
  unfold stepD
  simp [hd, ha]
end Go.Proofs.Ytpmmpdkeahmdiaa
