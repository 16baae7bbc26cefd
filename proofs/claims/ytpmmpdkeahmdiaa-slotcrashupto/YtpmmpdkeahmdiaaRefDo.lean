/- The reference's calls, over the disk as the document has it. -/
import Derived.Test.YtpmmpdkeahmdiaaRefWrite2
import Derived.Test.YtpmmpdkeahmdiaaRefSync2
import Derived.Test.YtpmmpdkeahmdiaaRefFree
import Derived.Test.YtpmmpdkeahmdiaaDoes
namespace Go.Proofs.Ytpmmpdkeahmdiaa
open Go.RowKit
set_option maxRecDepth 100000

/-- What a call of the reference answers: the disk d', and c. -/
def RefSays (P : Nat → Prop) (d' : DS) (c : Int) (w : World) (e : Ending) (w' : World) : Prop := ∃ v', e = .returned (.tuple #[v', .int .i64 c]) ∧ RefIs (fun b => P b ∨ w.heap.size ≤ b) w' v' d' ∧ Below w.heap.size w w'
theorem rdStep_with (r : RD) (x : Int) : rdStep { r with room := x } = { rdStep r with room := x } := by
  unfold rdStep
  have e : rdDies { r with room := x } = rdDies r := rfl
  rw [e]
  split
  · rfl
  · simp only
    split <;> rfl
theorem dies_e (d : DS) (h : d.dead = false) : (if rdDies (rdOf d) then (30 : Int) else 0) = stepE d := by
  rw [rdDies_eq d h]
  by_cases h0 : stepE d = 0
  · simp [h0]
  · rw [stepE_30 d h0]; simp
theorem no_find {d : DS} {X : List RX} {a n : Int} (hX : X.map RX.s = d.secs.map toRS) (h : ∀ x ∈ X, ¬ (x.s.area = a ∧ x.s.n = n)) : findS a n d.secs = none := by
  refine findS_none_of fun s hs hh => ?_
  have : toRS s ∈ X.map RX.s := by rw [hX]; exact List.mem_map.2 ⟨s, hs, rfl⟩
  obtain ⟨x, hx, e⟩ := List.mem_map.1 this
  refine h x hx ?_
  rw [e]; exact hh
theorem is_find {d : DS} {X : List RX} {x : RX} (hs : d.secs.Pairwise Sec.before) (hX : X.map RX.s = d.secs.map toRS) (hx : x ∈ X) : ∃ s, findS x.s.area x.s.n d.secs = some s ∧ toRS s = x.s := by
  have : x.s ∈ d.secs.map toRS := by rw [← hX]; exact List.mem_map.2 ⟨x, hx, rfl⟩
  obtain ⟨s, hm, e⟩ := List.mem_map.1 this
  refine ⟨s, ?_, e⟩
  rw [← e]
  exact findS_self hs hm
theorem ref_lens {N : Nat} {d : DS} {X : List RX} (hd : DsOk N d) (hN : N < 1099511627776) (hX : X.map RX.s = d.secs.map toRS) : X.length = d.secs.length ∧ X.length < 1099511627776 ∧ ∀ x ∈ X, x.s.vs.length ≤ 1099511627777 := by
  have hl : X.length = d.secs.length := by have := congrArg List.length hX; simpa using this
  refine ⟨hl, by have := hd.len; omega, fun x hx => ?_⟩
  have : x.s ∈ d.secs.map toRS := by rw [← hX]; exact List.mem_map.2 ⟨x, hx, rfl⟩
  obtain ⟨s, hm, e⟩ := List.mem_map.1 this
  rw [← e]
  have := hd.fresh s hm
  simp only [toRS, List.length_append]
  cases s.last <;> simp <;> omega
theorem refWrite_any (P : Nat → Prop) (N M : Nat) (d : DS) (v : Value) (a n : Int) (y : Value) (xs : List Nat) (w : World) (h : RefIs P w v d) (hd : DsOk N d) (hN : N < 1099511627776) (hr : Row M w y xs) (hM : M ≤ w.heap.size) (hl : xs.length ≤ 9223372036854775807) :
    Calls Try.prog 47 #[v, .int .u64 a, .int .i64 n, y] w (RefSays P (wrD d a n xs) (wrE d a n xs) w) := by
  obtain ⟨l, X, rfl, hS, hX⟩ := h
  obtain ⟨hl1, hl2, hl3⟩ := ref_lens hd hN hX
  have key : Calls Try.prog 47 #[rdV (rdOf d) l, .int .u64 a, .int .i64 n, y] w (WrSays P (rdOf d) X a n xs w) := by
    cases hdd : d.dead with
    | true => exact refWrite_dead P (rdOf d) l X a n y xs w hS hdd
    | false =>
      by_cases hf : formBad n xs
      · exact refWrite_form P (rdOf d) l X a n M y xs w hS hr hdd hf hl
      · have := hd.r1; have := hd.r2; have := hd.fits; have := hd.s2
        exact refWrite_rest P (rdOf d) l X a n M y xs w hS hr hM hdd hf hl2 hl3 (by show 0 ≤ d.room - _; omega) (by show d.room - _ ≤ _; omega) hd.s1 (by show d.steps < _; omega) hd.a1 hd.a2 hd.a3
  refine key.mono ?_
  rintro e w' ⟨r', l', X', c, rfl, hS', hb, hcase⟩
  have fin : r' = rdOf (wrD d a n xs) → X'.map RX.s = (wrD d a n xs).secs.map toRS → c = wrE d a n xs → RefSays P (wrD d a n xs) (wrE d a n xs) w (.returned (.tuple #[rdV r' l', .int .i64 c])) w' := fun e1 e2 e3 => by
    subst e1 e3
    exact ⟨_, rfl, ⟨l', X', rfl, hS', e2⟩, hb⟩
  rcases hcase with ⟨h1, h2, h3, h4⟩ | ⟨h1, hf, h2, h3, h4⟩ | ⟨h1, hf, hno, h0, h2, h3, h4⟩ | ⟨h1, hf, hno, h0, h2, ⟨lv, h3⟩, h4⟩ | ⟨h1, hf, ⟨x, hx, xa, xn, h2, ⟨lv, h3⟩⟩, h4⟩
  · have h1' : d.dead = true := h1
    have eD : wrD d a n xs = d := by rw [wrD, if_pos h1']
    refine fin (by rw [eD]; exact h2) (by rw [eD, h3]; exact hX) (by rw [wrE, if_pos h1']; exact h4)
  · have h1' : ¬ d.dead = true := by rw [show d.dead = false from h1]; simp
    have eD : wrD d a n xs = d := by rw [wrD, if_neg h1', if_pos hf]
    refine fin (by rw [eD]; exact h2) (by rw [eD, h3]; exact hX) (by rw [wrE, if_neg h1', if_pos hf]; exact h4)
  · have h1' : ¬ d.dead = true := by rw [show d.dead = false from h1]; simp
    have hn := no_find hX hno
    have hfu : fullBad d a n := ⟨by rw [hn]; rfl, by have : d.room - (d.secs.length : Int) = 0 := h0; omega⟩
    have eD : wrD d a n xs = d := by rw [wrD, if_neg h1', if_neg hf, if_pos hfu]
    refine fin (by rw [eD]; exact h2) (by rw [eD, h3]; exact hX) (by rw [wrE, if_neg h1', if_neg hf, if_pos hfu]; exact h4)
  · have h1' : ¬ d.dead = true := by rw [show d.dead = false from h1]; simp
    have hn := no_find hX hno
    have hfu : ¬ fullBad d a n := fun hh => h0 (by show d.room - (d.secs.length : Int) = 0; have := hh.2; omega)
    have eD : wrD d a n xs = { stepD d with secs := wr a n (pad xs) d.secs } := by rw [wrD, if_neg h1', if_neg hf, if_neg hfu]
    refine fin ?_ ?_ ?_
    · rw [eD, h2, rdStep_with, ← rdOf_step d h1]
      have hw := wr_len (a := a) (n := n) (v := pad xs) hd.sorted
      rw [hn] at hw
      simp only [Option.isSome_none, Bool.false_eq_true, if_false] at hw
      simp only [rdOf, hw, (stepD_secs d).1, (stepD_secs d).2]
      congr 1
      omega
    · rw [eD, h3, putX_map, hX]
      have := putR_wr (a := a) (n := n) (v := pad xs) hd.sorted
      rw [hn] at this
      exact this
    · rw [wrE, if_neg h1', if_neg hf, if_neg hfu, h4]
      exact dies_e d h1
  · have h1' : ¬ d.dead = true := by rw [show d.dead = false from h1]; simp
    obtain ⟨s, hs1, hs2⟩ := is_find hd.sorted hX hx
    rw [xa, xn] at hs1
    have hfu : ¬ fullBad d a n := fun hh => by have := hh.1; rw [hs1] at this; cases this
    have eD : wrD d a n xs = { stepD d with secs := wr a n (pad xs) d.secs } := by rw [wrD, if_neg h1', if_neg hf, if_neg hfu]
    refine fin ?_ ?_ ?_
    · rw [eD, h2, ← rdOf_step d h1]
      have hw := wr_len (a := a) (n := n) (v := pad xs) hd.sorted
      rw [hs1] at hw
      simp only [Option.isSome_some, if_true] at hw
      simp only [rdOf, hw, (stepD_secs d).1]
    · rw [eD, h3, putX_map, hX]
      have := putR_wr (a := a) (n := n) (v := pad xs) hd.sorted
      rw [hs1] at this
      rw [← this, ← hs2]
      simp [wrS, toRS]
    · rw [wrE, if_neg h1', if_neg hf, if_neg hfu, h4]
      exact dies_e d h1
theorem refSync_any (P : Nat → Prop) (N : Nat) (d : DS) (v : Value) (a : Int) (w : World) (h : RefIs P w v d) (hd : DsOk N d) (hN : N < 1099511627776) :
    Calls Try.prog 48 #[v, .int .u64 a] w (RefSays P (syD d a) (stepE d) w) := by
  obtain ⟨l, X, rfl, hS, hX⟩ := h
  have key : Calls Try.prog 48 #[rdV (rdOf d) l, .int .u64 a] w (SySays P (rdOf d) X a w) := by
    cases hdd : d.dead with
    | true => exact refSync_dead P (rdOf d) l X a w hS hdd
    | false => exact refSync_rest P (rdOf d) l X a w hS hdd hd.s1 (by have := hd.s2; show d.steps < _; omega) hd.a1 hd.a2 hd.a3
  refine key.mono ?_
  rintro e w' ⟨r', l', X', c, rfl, hS', hb, hcase⟩
  have fin : r' = rdOf (syD d a) → X'.map RX.s = (syD d a).secs.map toRS → c = stepE d → RefSays P (syD d a) (stepE d) w (.returned (.tuple #[rdV r' l', .int .i64 c])) w' := fun e1 e2 e3 => by
    subst e1 e3
    exact ⟨_, rfl, ⟨l', X', rfl, hS', e2⟩, hb⟩
  rcases hcase with ⟨h1, h2, h3, h4⟩ | ⟨h1, hdi, h2, h3, h4⟩ | ⟨h1, hdi, h2, h3, h4⟩
  · have h1' : d.dead = true := h1
    have eE : stepE d = 30 := by rw [stepE, if_pos h1']
    have eD : syD d a = d := by rw [syD, if_neg (by rw [eE]; decide), stepD, if_pos h1']
    exact fin (by rw [eD]; exact h2) (by rw [eD, h3]; exact hX) (by rw [eE]; exact h4)
  · have hne : stepE d ≠ 0 := by rw [rdDies_eq d h1] at hdi; simpa using hdi
    have eD : syD d a = stepD d := by rw [syD, if_neg hne]
    exact fin (by rw [eD, h2, rdOf_step d h1]) (by rw [eD, h3, (stepD_secs d).1]; exact hX) (by rw [stepE_30 d hne]; exact h4)
  · have hne : stepE d = 0 := by rw [rdDies_eq d h1] at hdi; simpa using hdi
    have eD : syD d a = { stepD d with secs := sy a d.secs } := by rw [syD, if_pos hne]
    refine fin ?_ ?_ (by rw [hne]; exact h4)
    · rw [eD, h2, ← rdOf_step d h1]
      simp [rdOf, sy, (stepD_secs d).1]
    · rw [eD, h3]
      show _ = (sy a d.secs).map toRS
      rw [← sy_map hd.there, ← hX, List.map_map]
      rfl
theorem refFree_any (P : Nat → Prop) (N : Nat) (d : DS) (v : Value) (a : Int) (w : World) (h : RefIs P w v d) (hd : DsOk N d) (hN : N < 1099511627776) :
    Calls Try.prog 49 #[v, .int .u64 a] w (RefSays P (frD d a) (stepE d) w) := by
  obtain ⟨l, X, rfl, hS, hX⟩ := h
  obtain ⟨hl1, _, _⟩ := ref_lens hd hN hX
  have key : Calls Try.prog 49 #[rdV (rdOf d) l, .int .u64 a] w (FrSays P (rdOf d) X a w) := by
    cases hdd : d.dead with
    | true => exact refFree_dead P (rdOf d) l X a w hS hdd
    | false =>
      have := hd.r1; have := hd.r2; have := hd.fits; have := hd.s2
      exact refFree_rest P (rdOf d) l X a w hS hdd hd.s1 (by show d.steps < _; omega) hd.a1 hd.a2 hd.a3 (by show 0 ≤ d.room - _; omega) (by show d.room - _ + _ ≤ _; omega)
  refine key.mono ?_
  rintro e w' ⟨r', l', X', c, rfl, hS', hb, hcase⟩
  have fin : r' = rdOf (frD d a) → X'.map RX.s = (frD d a).secs.map toRS → c = stepE d → RefSays P (frD d a) (stepE d) w (.returned (.tuple #[rdV r' l', .int .i64 c])) w' := fun e1 e2 e3 => by
    subst e1 e3
    exact ⟨_, rfl, ⟨l', X', rfl, hS', e2⟩, hb⟩
  rcases hcase with ⟨h1, h2, h3, h4⟩ | ⟨h1, hdi, h2, h3, h4⟩ | ⟨h1, hdi, h2, h3, h4⟩
  · have h1' : d.dead = true := h1
    have eE : stepE d = 30 := by rw [stepE, if_pos h1']
    have eD : frD d a = d := by rw [frD, if_neg (by rw [eE]; decide), stepD, if_pos h1']
    exact fin (by rw [eD]; exact h2) (by rw [eD, h3]; exact hX) (by rw [eE]; exact h4)
  · have hne : stepE d ≠ 0 := by rw [rdDies_eq d h1] at hdi; simpa using hdi
    have eD : frD d a = stepD d := by rw [frD, if_neg hne]
    exact fin (by rw [eD, h2, rdOf_step d h1]) (by rw [eD, h3, (stepD_secs d).1]; exact hX) (by rw [stepE_30 d hne]; exact h4)
  · have hne : stepE d = 0 := by rw [rdDies_eq d h1] at hdi; simpa using hdi
    have eD : frD d a = { stepD d with secs := fr a d.secs } := by rw [frD, if_pos hne]
    have hcnt : (X.filter fun x => x.s.area = a).length = cnt a d.secs := by
      have e1 : (X.filter fun x => decide (x.s.area = a)).map RX.s = (d.secs.filter fun s => s.area = a).map toRS := by
        have q1 : (X.filter fun x => decide (x.s.area = a)).map RX.s = (X.map RX.s).filter fun s => s.area = a := by rw [List.filter_map]; rfl
        rw [q1, hX, List.filter_map]
        rfl
      have := congrArg List.length e1
      simpa [cnt] using this
    have hfl := fr_len a d.secs
    refine fin ?_ ?_ (by rw [hne]; exact h4)
    · rw [eD, h2, ← rdOf_step d h1, hcnt]
      simp only [rdOf, (stepD_secs d).1, (stepD_secs d).2]
      congr 1
      omega
    · rw [eD, h3]
      show _ = (fr a d.secs).map toRS
      rw [← fr_map, ← hX, List.filter_map]
      rfl
end Go.Proofs.Ytpmmpdkeahmdiaa
