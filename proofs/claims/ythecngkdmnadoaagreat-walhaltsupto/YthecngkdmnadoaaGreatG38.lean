/- Texts that were written apart, joined. -/
import Derived.Test.YthecngkdmnadoaaGreatG37
import Derived.Test.YthecngkdmnadoaaGreatG32
/- Sync, whatever the log is. -/
namespace Go.Proofs.YthecngkdmnadoaaGreat
open Go.RowKit
set_option maxRecDepth 100000

def sydG (g : LG) : Int × LG := keepG (stepE g.d, { g with d := syD g.d (g.area : Int) })
theorem sydG_e (g : LG) : (sydG g).1 = stepE g.d := keepG_e _
def syncG (g : LG) : Int × LG :=
  if ¬ g.fault = 0 then (g.fault, g)
  else if g.adrift = true then (if ¬ (beginG g g.first []).1 = 0 then ((beginG g g.first []).1, (keepG (beginG g g.first [])).2) else sydG (keepG (beginG g g.first [])).2)
  else sydG g
/-- The disk and the log's own block have changed. -/
theorem LogAt.turnB {N M : Nat} {w w' : World} {b : Nat} {g g' : LG} {v : WV} {fp fp' : List Nat} {s : List Sv} (h : LogAt N w b g v fp s) (ho : Only (b :: fp) w w') (hd : DiskAt M w' v.p g'.d fp') (hs : ∀ k ∈ fp', k ∈ fp ∨ w.heap.size ≤ k) (hw : WalAt w' b g'.n v) (h2 : g'.l = g.l) (h3 : g'.L = g.L) (h4 : g'.tl = g.tl) : LogAt M w' b g' v fp' s := by
  have hoF : Only (logF b v fp) w w' := ho.wider (fun x hx => by
    simp only [List.mem_cons] at hx
    rcases hx with h | h <;> simp [logF, h])
  have hsub := logF_sub (b := b) (v := v) hs
  have hbl := h.wal.lt
  have hpl := QOwn.ltB h.pl
  have hrl := h.recs.lt
  have hp : QOwn 0 w' (.slice v.pa v.pn v.pc) g.l := h.pl.only ho (fun ad n c e k hk hm => by
    simp only [Value.slice.injEq] at e
    rw [← e.1] at hk
    simp only [List.mem_cons] at hm
    rcases hm with h1 | h1
    · exact (h.paf k hk).2 h1
    · exact (h.paf k hk).1 h1)
  have hr : SOwn 0 w' (.slice v.ra g.L.length v.rc) s := h.recs.only ho (fun k hk hm => by
    simp only [List.mem_cons] at hm
    rcases hm with h1 | h1
    · exact (h.raf k hk).2.1 h1
    · exact (h.raf k hk).1 h1)
  refine ⟨hd, hw, by rw [h2]; exact hp, by rw [h3]; exact hr, fun i x xs q1 q2 => (h.rows i x xs q1 (h3 ▸ q2)).step hoF hsub, by rw [h4]; exact h.tail.step hoF hsub, fun hb => ?_, fun x hx => ⟨fun hf => ?_, (h.paf x hx).2⟩, fun x hx => ⟨fun hf => ?_, (h.raf x hx).2⟩⟩
  · rcases hs b hb with h1 | h1
    · exact h.bf h1
    · omega
  · rcases hs x hf with h1 | h1
    · exact (h.paf x hx).1 h1
    · have := hpl x hx; omega
  · rcases hs x hf with h1 | h1
    · exact (h.raf x hx).1 h1
    · have := hrl x hx; omega
theorem sydG_g (g : LG) : (sydG g).2 = { g with d := syD g.d (g.area : Int), fault := stepE g.d } := by
  unfold sydG keepG
  rw [if_neg (by show ¬ stepE g.d = 51; rcases stepE_e g.d with k | k <;> rw [k] <;> decide)]
set_option maxHeartbeats 2000000 in
theorem Sync_log (N b : Nat) (g : LG) (v : WV) (fp : List Nat) (s : List Sv) (w : World) (h : LogAt N w b g v fp s) (hok : LOk g) (hN : N < 137438953472) :
    Calls Tryz.prog 24 #[.pointer (some ⟨b, 0, none⟩)] w (LogSays (N + g.l.length + 32) b (syncG g) v fp w) := by
  have hlast := hok.last
  by_cases hf : g.fault = 0
  · cases ha : g.adrift with
    | false =>
      refine (WSync_any N b g.d fp g.n v w h.disk h.wal (by omega) h.bf hf ha).mono ?_
      rintro e w' ⟨rfl, ⟨fp', hd, hs⟩, ho, hw⟩
      have hg : syncG g = sydG g := by unfold syncG; rw [if_neg (by simp [hf]), ha]; rfl
      rw [hg]
      refine ⟨by rw [sydG_e], v, fp', s, ?_, rfl, ho.wider (fun x hx => ?_), logF_sub hs⟩
      · rw [sydG_g]
        exact h.turnB ho (hd.mono (by omega)) hs hw rfl rfl rfl
      · simp only [List.mem_cons] at hx
        rcases hx with h | h <;> simp [logF, h]
    | true =>
      obtain ⟨-, c1, -, -, -, -, -, -, c8, c9, -⟩ := h.cells
      rw [hf] at c9
      rw [ha] at c8
      obtain ⟨re, rg, hr⟩ : ∃ re rg, beginG g g.first [] = (re, rg) := ⟨_, _, rfl⟩
      have HR : Hid (beginG g g.first [] = (re, rg)) := hr
      have HF : Hid (g.fault = 0) := hf
      have HA : Hid (g.adrift = true) := ha
      have hbg := begin_any N b g.first g v fp s [] (.slice none 0 0) w h (Bytes.nil 0 w).row hN (by omega) (by simp) hok.next hok.pl hok.many
      rw [hr] at hbg
      have HB : Hid (Calls Tryz.prog 49 #[.pointer (some ⟨b, 0, none⟩), .int .u64 (g.first : Int), .slice none 0 0] w (LogSays (N + ([] : List Nat).length + g.l.length + 16) b (re, rg) v fp w)) := hbg
      have hbn : N + ([] : List Nat).length + g.l.length + 16 < 549755813888 := by have := hok.many; simp only [List.length_nil]; omega
      have HM : Hid (N + ([] : List Nat).length + g.l.length + 16 + 1 ≤ N + g.l.length + 32) := by show _ ≤ _; simp only [List.length_nil]; omega
      obtain ⟨M, hM⟩ : ∃ M, N + ([] : List Nat).length + g.l.length + 16 = M := ⟨_, rfl⟩
      rw [hM] at HB hbn HM
      clear h hok hf ha hr hbg hM
      go_enter Tryz.func24, Tryz.ntmps24
      go_wp2_with (go_at_call 49; refine HB.out.mono ?_; rintro e w2 ⟨rfl, v2, fp2, s2, hL2, hp2, ho2, hs2⟩; have H2 : Hid (LogAt M w2 b rg v2 fp2 s2 ∧ v2.p = v.p ∧ Only (logF b v fp) w w2 ∧ ∀ k ∈ logF b v2 fp2, k ∈ logF b v fp ∨ w.heap.size ≤ k) := ⟨hL2, hp2, ho2, hs2⟩; clear hL2 hp2 ho2 hs2 HB)
      refine (keepL_any _ b rg v2 fp2 s2 re w2 H2.out.1).mono ?_
      rintro e w3 ⟨rfl, hL3, ho3⟩
      obtain ⟨kg, hkg⟩ : ∃ kg, (keepG (re, rg)).2 = kg := ⟨_, rfl⟩
      have HKG : Hid ((keepG (re, rg)).2 = kg) := hkg
      rw [hkg] at hL3
      have hO3 : Only (logF b v fp) w w3 := H2.out.2.2.1.then ho3 (fun k hk => by simp [logF, List.mem_singleton.1 hk])
      have H3 : Hid (LogAt M w3 b kg v2 fp2 s2 ∧ Only (logF b v fp) w w3 ∧ (∀ k ∈ logF b v2 fp2, k ∈ logF b v fp ∨ w.heap.size ≤ k)) := ⟨hL3, hO3, H2.out.2.2.2⟩
      clear hL3 ho3 hO3 hkg
      by_cases h0 : re = 0
      · subst h0
        obtain ⟨q0, -, -, -, -, q5, -, -, -, -, -⟩ := H3.out.1.cells
        have hS0 : ∀ k, S3 b v2.p (kg.area : Int) (w3.drewN k) := fun _ => ⟨q0, q5⟩
        clear q0 q5
        go_wp2_with fail
        refine region_at (S := S3 b v2.p (kg.area : Int)) 13 rfl (by kernel_rfl) (hS0 1) (fun _ => ?_)
        refine take_at (i := 0) 28 rfl rfl (by kernel_rfl) (by kernel_rfl) (by kernel_rfl) (fun _ _ _ h => h) (by rfl) (fun w hSw => by (have hSw2 := S3.facts hSw; clear hSw; go_simp; first | done | exact rfl)) (by assumption) ?_
        simp only [List.setIfInBounds_toArray, List.set_cons_zero, List.set_cons_succ]
        refine take_at (i := 1) 29 rfl rfl (by kernel_rfl) (by kernel_rfl) (by kernel_rfl) (fun _ _ _ h => h) (by rfl) (fun w hSw => by (have hSw2 := S3.facts hSw; clear hSw; go_simp; first | done | exact rfl)) (by assumption) ?_
        simp only [List.setIfInBounds_toArray, List.set_cons_zero, List.set_cons_succ]
        refine take_at (i := 2) 30 rfl rfl (by kernel_rfl) (by kernel_rfl) (by kernel_rfl) (fun _ _ _ h => h) (by rfl) (fun w hSw => by (have hSw2 := S3.facts hSw; clear hSw; go_simp; first | done | exact rfl)) (by assumption) ?_
        simp only [List.setIfInBounds_toArray, List.set_cons_zero, List.set_cons_succ]
        refine take_at (i := 3) 31 rfl rfl (by kernel_rfl) (by kernel_rfl) (by kernel_rfl) (fun _ _ _ h => h) (by rfl) (fun w hSw => by (have hSw2 := S3.facts hSw; clear hSw; go_simp; first | done | exact rfl)) (by assumption) ?_
        simp only [List.setIfInBounds_toArray, List.set_cons_zero, List.set_cons_succ]
        refine take_at (i := 4) 32 rfl rfl (by kernel_rfl) (by kernel_rfl) (by kernel_rfl) (fun _ _ _ h => h) (by rfl) (fun w hSw => by (have hSw2 := S3.facts hSw; clear hSw; go_simp; first | done | exact rfl)) (by assumption) ?_
        simp only [List.setIfInBounds_toArray, List.set_cons_zero, List.set_cons_succ]
        refine take_at (i := 5) 33 rfl rfl (by kernel_rfl) (by kernel_rfl) (by kernel_rfl) (fun _ _ _ h => h) (by rfl) (fun w hSw => by (have hSw2 := S3.facts hSw; clear hSw; go_simp; first | done | exact rfl)) (by assumption) ?_
        simp only [List.setIfInBounds_toArray, List.set_cons_zero, List.set_cons_succ]
        refine take_at (i := 6) 34 rfl rfl (by kernel_rfl) (by kernel_rfl) (by kernel_rfl) (fun _ _ _ h => h) (by rfl) (fun w hSw => by (have hSw2 := S3.facts hSw; clear hSw; go_simp; first | done | exact rfl)) (by assumption) ?_
        simp only [List.setIfInBounds_toArray, List.set_cons_zero, List.set_cons_succ]
        refine take_at (i := 7) 35 rfl rfl (by kernel_rfl) (by kernel_rfl) (by kernel_rfl) (fun _ _ _ h => h) (by rfl) (fun w hSw => by (have hSw2 := S3.facts hSw; clear hSw; go_simp; first | done | exact rfl)) (by assumption) ?_
        simp only [List.setIfInBounds_toArray, List.set_cons_zero, List.set_cons_succ]
        refine take_at (i := 8) 36 rfl rfl (by kernel_rfl) (by kernel_rfl) (by kernel_rfl) (fun _ _ _ h => h) (by rfl) (fun w hSw => by (have hSw2 := S3.facts hSw; clear hSw; go_simp; first | done | exact rfl)) (by assumption) ?_
        simp only [List.setIfInBounds_toArray, List.set_cons_zero, List.set_cons_succ]
        refine take_at (i := 9) 37 rfl rfl (by kernel_rfl) (by kernel_rfl) (by kernel_rfl) (fun _ _ _ h => h) (by rfl) (fun w hSw => by (have hSw2 := S3.facts hSw; clear hSw; go_simp; first | done | exact rfl)) (by assumption) ?_
        simp only [List.setIfInBounds_toArray, List.set_cons_zero, List.set_cons_succ]
        refine one_call (i := 10) (w0 := w3.drew) 38 26 #[.pointer (some ⟨v2.p, 0, none⟩), .int .u64 (kg.area : Int)] (by kernel_rfl) rfl rfl (by rfl) (by kernel_rfl) ?_
        refine (Sync_any M v2.p kg.d fp2 (kg.area : Int) w3.drew (H3.out.1.disk.same fun _ _ => rfl) (by omega)).mono ?_
        rintro e w4 ⟨rfl, fp4, hD4, hO4, hs4⟩
        have hO34 : Only fp2 w3 w4 := ⟨hO4.os, hO4.tape, hO4.output, hO4.size, hO4.block⟩
        have hL4 : LogAt (M + 1) w4 b { kg with d := syD kg.d (kg.area : Int) } v2 fp4 s2 := H3.out.1.turn hO34 hD4 hs4
        have hS4 : S3 b v2.p (kg.area : Int) w4 := ⟨hL4.cells.1, hL4.cells.2.2.2.2.2.1⟩
        refine ⟨_, rfl, hS4, fun _ => ?_⟩
        simp only [List.setIfInBounds_toArray, List.set_cons_zero, List.set_cons_succ]
        refine one_call (i := 11) (w0 := w4) 39 48 #[.pointer (some ⟨b, 0, none⟩), .int .i64 (stepE kg.d)] (by kernel_rfl) rfl rfl (by rfl) (by kernel_rfl) ?_
        refine (keepL_any _ b _ v2 fp4 s2 (stepE kg.d) w4 hL4).mono ?_
        rintro e w5 ⟨rfl, hL5, ho5⟩
        have hS5 : S3 b v2.p (kg.area : Int) w5 := by
          have h1 := hL5.cells
          have e1 : (keepG (stepE kg.d, { kg with d := syD kg.d (kg.area : Int) })).2.area = kg.area := by unfold keepG; split <;> rfl
          rw [e1] at h1
          exact ⟨h1.1, h1.2.2.2.2.2.1⟩
        have H5 : Hid (LogAt (M + 1) w5 b (sydG kg).2 v2 fp4 s2 ∧ Only (logF b v2 fp2) w3 w5 ∧ ∀ k ∈ logF b v2 fp4, k ∈ logF b v2 fp2 ∨ w3.heap.size ≤ k) :=
          ⟨hL5, (hO34.wider (fun k hk => by simp [logF, hk])).then ho5 (fun k hk => by simp [logF, List.mem_singleton.1 hk]), logF_sub hs4⟩
        refine ⟨_, rfl, hS5, fun _ => ?_⟩
        simp only [List.setIfInBounds_toArray, List.set_cons_zero, List.set_cons_succ]
        refine one_value (i := 12) (v := .int .i64 (stepE kg.d)) (w' := w5) 2 (by kernel_rfl) rfl rfl (by rfl) (by kernel_rfl) hS5 (fun _ => ?_)
        refine wpAnyH_done (by kernel_rfl) ?_ _
        simp only [List.setIfInBounds_toArray, List.set_cons_zero, List.set_cons_succ]
        clear hS5 hL5 ho5 hS4 hL4 hO34 hD4 hO4 hs4
        go_wp2_with fail
        go_ret
        have hg : syncG g = sydG kg := by unfold syncG; rw [if_neg (by simp [HF.out]), if_pos HA.out, HR.out, if_neg (by simp), HKG.out]
        rw [hg]
        refine ⟨by rw [sydG_e]; rfl, v2, fp4, s2, H5.out.1.more HM.out, H2.out.2.1, H3.out.2.1.trans H5.out.2.1 H3.out.2.2, fun k hk => ?_⟩
        rcases H5.out.2.2 k hk with h | h
        · exact H3.out.2.2 k h
        · exact .inr (Nat.le_trans H3.out.2.1.size h)
      · have h0b : (re == 0) = false := by simpa using h0
        have HNE : Hid (¬ re = 0) := h0
        clear h0
        go_wp2_with fail
        go_ret
        have hg : syncG g = (re, kg) := by unfold syncG; rw [if_neg (by simp [HF.out]), if_pos HA.out, HR.out, if_pos HNE.out, HKG.out]
        rw [hg]
        exact ⟨rfl, v2, fp2, s2, H3.out.1.more (Nat.le_trans (Nat.le_succ _) HM.out), H2.out.2.1, H3.out.2.1, H3.out.2.2⟩
  · refine (WSync_fault b g.n v w h.wal hf).mono ?_
    rintro e w' ⟨rfl, rfl⟩
    have hg : syncG g = (g.fault, g) := if_pos hf
    rw [hg]
    exact h.stays (Below.refl _ _) (by omega)
end Go.Proofs.YthecngkdmnadoaaGreat

/- Truncate and Compact, whatever the log is. -/
namespace Go.Proofs.YthecngkdmnadoaaGreat
open Go.RowKit
set_option maxRecDepth 100000

theorem take_some {α : Type} {l : List α} {j a : Nat} {x : α} (h : (l.take j)[a]? = some x) : l[a]? = some x := by
  rw [List.getElem?_take] at h
  split at h
  · exact h
  · cases h
/-- A part of the rows is left. -/
theorem LogAt.part {N M : Nat} {w w' : World} {b : Nat} {g g' : LG} {v v' : WV} {fp fp' : List Nat} {s s' : List Sv} (h : LogAt N w b g v fp s) (ho : Only (logF b v fp) w w') (hd : DiskAt M w' v.p g'.d fp') (hs : ∀ k ∈ fp', k ∈ fp ∨ w.heap.size ≤ k) (hw : WalAt w' b g'.n v')
    (hq : QOwn 0 w' (.slice v.pa v'.pn v'.pc) g'.l) (hr : SOwn 0 w' (.slice v.ra g'.L.length v'.rc) s') (hrow : ∀ (i : Nat) (x : Sv) (xs : List Nat), s'[i]? = some x → g'.L[i]? = some xs → ∃ j : Nat, s[j]? = some x ∧ g.L[j]? = some xs)
    (ep : v'.p = v.p) (era : v'.ra = v.ra) (epa : v'.pa = v.pa) (eta : v'.ta = v.ta) (etc : v'.tc = v.tc) (etl : g'.tl = g.tl) : LogAt M w' b g' v' fp' s' ∧ ∀ k ∈ logF b v' fp', k ∈ logF b v fp ∨ w.heap.size ≤ k := by
  have hF : logF b v' fp' = logF b v fp' := by unfold logF; rw [era, epa]
  have hsub : ∀ k ∈ logF b v' fp', k ∈ logF b v fp ∨ w.heap.size ≤ k := by rw [hF]; exact logF_sub hs
  have hbl := h.wal.lt
  have hpl := QOwn.ltB h.pl
  have hrl := h.recs.lt
  refine ⟨⟨by rw [ep]; exact hd, hw, by rw [epa]; exact hq, by rw [era]; exact hr, fun i x xs q1 q2 => ?_, by rw [eta, etc, etl]; exact h.tail.step ho hsub, fun hb => ?_, fun x hx => ?_, fun x hx => ?_⟩, hsub⟩
  · obtain ⟨j, j1, j2⟩ := hrow i x xs q1 q2
    exact (h.rows j x xs j1 j2).step ho hsub
  · rcases hs b hb with h1 | h1
    · exact h.bf h1
    · omega
  · rw [epa] at hx
    refine ⟨fun hf => ?_, (h.paf x hx).2⟩
    rcases hs x hf with h1 | h1
    · exact (h.paf x hx).1 h1
    · have := hpl x hx; omega
  · rw [era] at hx
    refine ⟨fun hf => ?_, (h.raf x hx).2.1, by rw [epa]; exact (h.raf x hx).2.2⟩
    rcases hs x hf with h1 | h1
    · exact (h.raf x hx).1 h1
    · have := hrl x hx; omega
def truncG (g : LG) (i : Nat) : Int × LG :=
  if ¬ g.fault = 0 then (g.fault, g)
  else if i < g.first ∨ g.first + g.L.length < i then (51, g)
  else if i = g.first + g.L.length then (0, g)
  else if ¬ (beginG g i []).1 = 0 then ((beginG g i []).1, (keepG (beginG g i [])).2)
  else (0, { (keepG (beginG g i [])).2 with L := (keepG (beginG g i [])).2.L.take (i - g.first) })
def compG (g : LG) (i : Nat) : Int × LG :=
  if ¬ g.fault = 0 then (g.fault, g)
  else if g.first + g.L.length < i then (51, g)
  else if i ≤ g.first then (0, g)
  else if ¬ (aheadR g.d (g.area : Int) g.l i).1 = 0 then ((aheadR g.d (g.area : Int) g.l i).1, { g with d := (aheadR g.d (g.area : Int) g.l i).2, fault := (aheadR g.d (g.area : Int) g.l i).1 })
  else (0, { g with d := (aheadR g.d (g.area : Int) g.l i).2, first := i, L := g.L.drop (i - g.first), l := g.l.drop (downTo g.l i (g.l.length - 1)), fault := 0 })
theorem beginG_first (g : LG) (ix : Nat) (x : List Nat) : (beginG g ix x).2.first = g.first := by
  unfold beginG
  repeat' split
  all_goals rfl
theorem keepG_first (r : Int × LG) : (keepG r).2.first = r.2.first := by unfold keepG; split <;> rfl
set_option maxHeartbeats 2000000 in
theorem Comp_log (N b i : Nat) (g : LG) (v : WV) (fp : List Nat) (s : List Sv) (w : World) (h : LogAt N w b g v fp s) (hok : LOk g) (hN : N < 137438953472) :
    Calls Tryz.prog 29 #[.pointer (some ⟨b, 0, none⟩), .int .u64 (i : Int)] w (LogSays (N + g.l.length + 32) b (compG g i) v fp w) := by
  have hrecs := hok.recs
  have hlast := hok.last
  have hmany := hok.many
  by_cases hf : g.fault = 0
  · by_cases h1 : g.first + g.L.length < i
    · refine (Compact_range b i g.n v w h.wal hf (show g.first + g.L.length < _ by omega) (show g.L.length ≤ _ by omega) h1).mono ?_
      rintro e w' ⟨rfl, k, rfl⟩
      have hg : compG g i = (51, g) := by unfold compG; rw [if_neg (by simp [hf]), if_pos h1]
      rw [hg]
      exact h.stays (belowN (Below.refl _ _) _) (by omega)
    · by_cases h2 : i ≤ g.first
      · refine (Compact_none b i g.n v w h.wal hf (show g.first + g.L.length < _ by omega) (show g.L.length ≤ _ by omega) h2).mono ?_
        rintro e w' ⟨rfl, k, rfl⟩
        have hg : compG g i = (0, g) := by unfold compG; rw [if_neg (by simp [hf]), if_neg h1, if_pos h2]
        rw [hg]
        exact h.stays (belowN (Below.refl _ _) _) (by omega)
      · have hpn := h.len.2
        have hsl := h.len.1
        have hi2 : i - g.first ≤ g.L.length := by omega
        refine (Compact_walk 0 N b i g.d fp g.n v g.l s w h.disk h.wal (by omega) h.pl (by omega) h.recs (show g.L.length < _ by omega) hlast h.bf h.paf h.raf hok.pl hf (show g.first < i by omega) (show i ≤ g.first + g.L.length by omega)).mono ?_
        obtain ⟨ra, rd, hr⟩ : ∃ ra rd, aheadR g.d (g.area : Int) g.l i = (ra, rd) := ⟨_, _, rfl⟩
        have hr' : aheadR g.d (g.n.area : Int) g.l i = (ra, rd) := hr
        rw [hr']
        rintro e w' ⟨rfl, ⟨fp', hd, hs⟩, ho, ⟨h0, hw, hq, hso⟩ | ⟨h0, hw, hq, hso⟩⟩
        · dsimp only at h0 hd
          subst h0
          have hg : compG g i = (0, { g with d := rd, first := i, L := g.L.drop (i - g.first), l := g.l.drop (downTo g.l i (g.l.length - 1)), fault := 0 }) := by
            unfold compG
            rw [if_neg (by simp [hf]), if_neg h1, if_neg h2, hr, if_neg (by simp)]
          rw [hg]
          have hl : (g.L.drop (i - g.first)).length = g.L.length - (i - g.first) := List.length_drop ..
          have hp := LogAt.part (g' := { g with d := rd, first := i, L := g.L.drop (i - g.first), l := g.l.drop (downTo g.l i (g.l.length - 1)), fault := 0 }) (v' := { v with pn := v.pn - downTo g.l i (g.l.length - 1) }) (s' := s.drop (i - g.first)) h ho (hd.mono (show _ ≤ N + g.l.length + 32 by omega)) hs (by
            show WalAt w' b (⟨i, (g.L.drop (i - g.first)).length, g.next, g.area, g.sector, g.tl.length, g.adrift, 0⟩) _
            rw [hl]; exact hw) hq (by
            show SOwn 0 w' (.slice v.ra (g.L.drop (i - g.first)).length v.rc) _
            rw [hl]; exact hso) (fun j x xs q1 q2 => ⟨(i - g.first) + j, by rw [← List.getElem?_drop]; exact q1, by rw [← List.getElem?_drop]; exact q2⟩) rfl rfl rfl rfl rfl rfl
          exact ⟨rfl, _, fp', _, hp.1, rfl, ho, hp.2⟩
        · dsimp only at h0 hd
          have hg : compG g i = (ra, { g with d := rd, fault := ra }) := by
            unfold compG
            rw [if_neg (by simp [hf]), if_neg h1, if_neg h2, hr, if_pos h0]
          rw [hg]
          have hp := LogAt.part (g' := { g with d := rd, fault := ra }) (v' := v) (s' := s) h ho (hd.mono (show _ ≤ N + g.l.length + 32 by omega)) hs hw hq hso (fun j x xs q1 q2 => ⟨j, q1, q2⟩) rfl rfl rfl rfl rfl rfl
          exact ⟨rfl, _, fp', _, hp.1, rfl, ho, hp.2⟩
  · refine (Compact_fault b i g.n v w h.wal hf).mono ?_
    rintro e w' ⟨rfl, rfl⟩
    have hg : compG g i = (g.fault, g) := if_pos hf
    rw [hg]
    exact h.stays (Below.refl _ _) (by omega)
set_option maxHeartbeats 2000000 in
theorem Trunc_log (N b i : Nat) (g : LG) (v : WV) (fp : List Nat) (s : List Sv) (w : World) (h : LogAt N w b g v fp s) (hok : LOk g) (hN : N < 137438953472) (hi : i < 18446744073709551616) :
    Calls Tryz.prog 42 #[.pointer (some ⟨b, 0, none⟩), .int .u64 (i : Int)] w (LogSays (N + g.l.length + 32) b (truncG g i) v fp w) := by
  have hrecs := hok.recs
  have hlast := hok.last
  have hmany := hok.many
  by_cases hf : g.fault = 0
  · obtain ⟨-, c1, -, -, -, -, -, -, -, c9, -⟩ := h.cells
    rw [hf] at c9
    have HL : Hid (LogAt N w b g v fp s) := h
    have HOK : Hid (LOk g) := hok
    have HF : Hid (g.fault = 0) := hf
    have HE : Hid (∀ W, W.heap = w.heap → Calls Tryz.prog 55 #[.pointer (some ⟨b, 0, none⟩)] W fun e w' => e = .returned (.int .u64 ((g.first + g.L.length : Nat) : Int)) ∧ ∃ k, w' = W.drewN k) := fun W hW =>
      wend_any W b g.n v (show W.heap[b]? = _ by rw [hW]; exact HL.out.wal) (show g.first + g.L.length < _ by omega) (show g.L.length ≤ _ by omega)
    clear h hok hf
    by_cases h1 : i < g.first
    · have h1z : (i : Int) < (g.first : Int) := by omega
      have hg : truncG g i = (51, g) := by unfold truncG; rw [if_neg (by simp [HF.out]), if_pos (.inl h1)]
      rw [hg]
      clear h1 hg
      go_enter Tryz.func42, Tryz.ntmps42
      go_wp2_with fail
      go_ret
      refine HL.out.stays (Below.refl _ _) ?_
      omega
    · have h1z : ¬ (i : Int) < (g.first : Int) := by omega
      obtain ⟨m, hm⟩ : ∃ m, g.first + g.L.length = m := ⟨_, rfl⟩
      rw [hm] at HE
      by_cases h2 : m < i
      · have h2z : (m : Int) < (i : Int) := by omega
        have hg : truncG g i = (51, g) := by unfold truncG; rw [if_neg (by simp [HF.out]), if_pos (.inr (by omega))]
        rw [hg]
        clear h1 h2 hg hm
        go_enter Tryz.func42, Tryz.ntmps42
        go_wp2_with (go_at_call 55; refine (HE.out _ rfl).mono ?_; rintro e w0 ⟨rfl, k0, rfl⟩)
        go_ret
        refine HL.out.stays (belowN (Below.refl _ _) _) ?_
        omega
      · have h2z : ¬ (m : Int) < (i : Int) := by omega
        by_cases h3 : i = m
        · have hg : truncG g i = (0, g) := by unfold truncG; rw [if_neg (by simp [HF.out]), if_neg (by omega), if_pos (by omega)]
          rw [hg]
          have h3z : ((i : Int) == (m : Int)) = true := by simp [h3]
          clear h1 h2 h3 hg hm
          go_enter Tryz.func42, Tryz.ntmps42
          go_wp2_with (first | (go_at_call 55; refine (HE.out w rfl).mono ?_; rintro e w0 ⟨rfl, k0, rfl⟩) | (go_at_call 55; refine (HE.out (w.drewN k0) rfl).mono ?_; rintro e w0 ⟨rfl, k1, rfl⟩))
          go_ret
          refine HL.out.stays (belowN (Below.refl _ _) _) ?_
          omega
        · have h3z : ((i : Int) == (m : Int)) = false := by simpa using (by omega : ¬ (i : Int) = (m : Int))
          obtain ⟨re, rg, hr⟩ : ∃ re rg, beginG g i [] = (re, rg) := ⟨_, _, rfl⟩
          have HR : Hid (beginG g i [] = (re, rg)) := hr
          have H123 : Hid (¬ (i < g.first ∨ g.first + g.L.length < i) ∧ ¬ i = g.first + g.L.length ∧ g.first ≤ i ∧ i ≤ g.first + g.L.length) := ⟨by omega, by omega, by omega, by omega⟩
          have HRL : Hid (rg.L = g.L ∧ rg.first = g.first) := by
            have q1 := beginG_L g i []
            have q2 := beginG_first g i []
            rw [hr] at q1 q2
            exact ⟨q1, q2⟩
          have HB : Hid (∀ k, Calls Tryz.prog 49 #[.pointer (some ⟨b, 0, none⟩), .int .u64 (i : Int), .slice none 0 0] (w.drewN k) (LogSays (N + ([] : List Nat).length + g.l.length + 16) b (re, rg) v fp (w.drewN k))) := fun k => by
            have := begin_any N b i g v fp s [] (.slice none 0 0) (w.drewN k) (HL.out.below (belowN (Below.refl _ _) _)) (Bytes.nil 0 _).row hN hi (by simp) HOK.out.next HOK.out.pl HOK.out.many
            rw [hr] at this
            exact this
          have HM : Hid (N + ([] : List Nat).length + g.l.length + 16 ≤ N + g.l.length + 32) := by show _ ≤ _; simp only [List.length_nil]; omega
          obtain ⟨M, hM⟩ : ∃ M, N + ([] : List Nat).length + g.l.length + 16 = M := ⟨_, rfl⟩
          rw [hM] at HB HM
          clear h1 h2 h3 hm hr hM
          go_enter Tryz.func42, Tryz.ntmps42
          go_wp2_with (first
            | (go_at_call 55; refine (HE.out w rfl).mono ?_; rintro e w0 ⟨rfl, k0, rfl⟩)
            | (go_at_call 55; refine (HE.out (w.drewN k0) rfl).mono ?_; rintro e w0 ⟨rfl, k1, rfl⟩)
            | (go_at_call 49; refine (HB.out _).mono ?_; rintro e w2 ⟨rfl, v2, fp2, s2, hL2, hp2, ho2, hs2⟩; have H2 : Hid (LogAt M w2 b rg v2 fp2 s2 ∧ v2.p = v.p ∧ Only (logF b v fp) w w2 ∧ ∀ k ∈ logF b v2 fp2, k ∈ logF b v fp ∨ w.heap.size ≤ k) := ⟨hL2, hp2, ⟨ho2.os, ho2.tape, ho2.output, ho2.size, ho2.block⟩, hs2⟩; clear hL2 hp2 ho2 hs2 HB))
          refine (keepL_any _ b rg v2 fp2 s2 re w2 H2.out.1).mono ?_
          rintro e w3 ⟨rfl, hL3, ho3⟩
          obtain ⟨kg, hkg⟩ : ∃ kg, (keepG (re, rg)).2 = kg := ⟨_, rfl⟩
          have HKG : Hid ((keepG (re, rg)).2 = kg) := hkg
          rw [hkg] at hL3
          have hkL : kg.L = g.L ∧ kg.first = g.first := by
            rw [← hkg, keepG_L, keepG_first]
            exact HRL.out
          have hO3 : Only (logF b v fp) w w3 := H2.out.2.2.1.then ho3 (fun k hk => by simp [logF, List.mem_singleton.1 hk])
          have H3 : Hid (LogAt M w3 b kg v2 fp2 s2 ∧ Only (logF b v fp) w w3 ∧ (∀ k ∈ logF b v2 fp2, k ∈ logF b v fp ∨ w.heap.size ≤ k) ∧ kg.L = g.L ∧ kg.first = g.first) := ⟨hL3, hO3, H2.out.2.2.2, hkL.1, hkL.2⟩
          clear hL3 ho3 hO3 hkg hkL
          by_cases h0 : re = 0
          · subst h0
            obtain ⟨j, hj⟩ : ∃ j, i - g.first = j := ⟨_, rfl⟩
            have HJ : Hid (i - g.first = j) := hj
            have hjl : j ≤ kg.L.length := by rw [H3.out.2.2.2.1]; have := H123.out.2.2; omega
            have HC : Hid (Calls Tryz.prog 67 #[.pointer (some ⟨b, 0, none⟩), .int .u64 i] w3 fun e w' => e = .returned (.tuple #[]) ∧ WalAt w' b { kg.n with many := j } v2 ∧ SOwn 0 w' (.slice v2.ra j v2.rc) (s2.take j) ∧ Only (b :: ownB v2.ra) w3 w') := by
              have q1 := H3.out.2.2.2.1
              have q2 := H3.out.2.2.2.2
              have q3 := H123.out.2.2
              have := cut_any 0 b i kg.n v2 s2 w3 H3.out.1.wal H3.out.1.recs (show kg.first ≤ i by omega) (show i ≤ kg.first + kg.L.length by rw [q1]; omega) (show kg.L.length < _ by rw [q1]; omega) (fun hm => (H3.out.1.raf b hm).2.1 rfl)
              have e1 : i - kg.n.first = j := by show i - kg.first = j; rw [q2]; exact hj
              rw [e1] at this
              exact this
            clear hj
            go_wp2_with (go_at_call 67; refine HC.out.mono ?_; rintro e w4 ⟨rfl, hw4, hs4, ho4⟩; have H4 : Hid (WalAt w4 b { kg.n with many := j } v2 ∧ SOwn 0 w4 (.slice v2.ra j v2.rc) (s2.take j) ∧ Only (b :: ownB v2.ra) w3 w4) := ⟨hw4, hs4, ho4⟩; clear hw4 hs4 ho4 HC)
            go_ret
            have hg : truncG g i = (0, { kg with L := kg.L.take j }) := by
              unfold truncG
              rw [if_neg (by simp [HF.out]), if_neg H123.out.1, if_neg H123.out.2.1, HR.out, if_neg (by simp), HKG.out, HJ.out]
            rw [hg]
            have hl : (kg.L.take j).length = j := by rw [List.length_take]; omega
            have hp := LogAt.part (g' := { kg with L := kg.L.take j }) (v' := v2) (s' := s2.take j) H3.out.1 (H4.out.2.2.wider (fun k hk => by
              simp only [List.mem_cons] at hk
              rcases hk with h | h <;> simp [logF, h])) ((H3.out.1.disk.mono (show M ≤ N + g.l.length + 32 from HM.out)).apart H4.out.2.2 (fun k hk hm => by
              simp only [List.mem_cons] at hm
              rcases hm with rfl | h
              · exact H3.out.1.bf hk
              · exact (H3.out.1.raf k h).1 hk)) (fun k hk => .inl hk) (by
              show WalAt w4 b (⟨kg.first, (kg.L.take j).length, kg.next, kg.area, kg.sector, kg.tl.length, kg.adrift, kg.fault⟩) _
              rw [hl]; exact H4.out.1) (H3.out.1.pl.only H4.out.2.2 (fun ad n c e k hk hm => by
              simp only [Value.slice.injEq] at e
              rw [← e.1] at hk
              simp only [List.mem_cons] at hm
              rcases hm with rfl | h
              · exact (H3.out.1.paf k hk).2 rfl
              · exact (H3.out.1.raf k h).2.2 hk)) (by
              show SOwn 0 w4 (.slice v2.ra (kg.L.take j).length v2.rc) _
              rw [hl]; exact H4.out.2.1) (fun a x xs q1 q2 => ⟨a, take_some q1, take_some q2⟩) rfl rfl rfl rfl rfl rfl
            refine ⟨rfl, _, fp2, _, hp.1, H2.out.2.1, H3.out.2.1.trans (fp' := logF b v2 fp2) (H4.out.2.2.wider (fun k hk => by
              simp only [List.mem_cons] at hk
              rcases hk with h | h <;> simp [logF, h])) H3.out.2.2.1, H3.out.2.2.1⟩
          · have h0b : (re == 0) = false := by simpa using h0
            have HNE : Hid (¬ re = 0) := h0
            clear h0
            go_wp2_with fail
            go_ret
            have hg : truncG g i = (re, kg) := by
              unfold truncG
              rw [if_neg (by simp [HF.out]), if_neg H123.out.1, if_neg H123.out.2.1, HR.out, if_pos HNE.out, HKG.out]
            rw [hg]
            exact ⟨rfl, v2, fp2, s2, H3.out.1.more HM.out, H2.out.2.1, H3.out.2.1, H3.out.2.2.1⟩
  · refine (Truncate_fault b i g.n v w h.wal hf).mono ?_
    rintro e w' ⟨rfl, rfl⟩
    have hg : truncG g i = (g.fault, g) := if_pos hf
    rw [hg]
    exact h.stays (Below.refl _ _) (by omega)
end Go.Proofs.YthecngkdmnadoaaGreat
