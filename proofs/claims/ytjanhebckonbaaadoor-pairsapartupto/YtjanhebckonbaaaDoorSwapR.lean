/- slices.swapRangeCmpFunc and slices.rotateCmpFunc at pairs. -/
import Derived.Test.YtjanhebckonbaaaDoorPBase
namespace Go.Proofs.YtjanhebckonbaaaDoor
open Go.RowKit Go.Shelf Go.Lib Go.Sort Pm
set_option maxRecDepth 1000000

attribute [local go_sem ↓] exec_load_P exec_store_P
set_option maxHeartbeats 4000000 in
theorem swapRange_any (blk off n cap : Nat) (w0 w : World) (R : RowP w0 blk off n) (A X M Y B : List Pr) (S : SWK encP 2 w0 blk off (A ++ (X ++ (M ++ (Y ++ B)))).toArray w) (hn : (A ++ (X ++ (M ++ (Y ++ B)))).length = n) (hxy : X.length = Y.length) (a b c : Nat) (ha : a = A.length) (hb : b = A.length + X.length + M.length) (hc : c = X.length) :
    Calls Tryd.prog 51 #[.slice (some ⟨blk, off, none⟩) n cap, .int .i64 a, .int .i64 b, .int .i64 c, .func (.func 31) #[] #[]] w fun e w' => e = .returned (.tuple #[]) ∧ SWK encP 2 w0 blk off (A ++ (Y ++ (M ++ (X ++ B)))).toArray w' := by
  have hbig := R.big
  have S0 : Aside (SWK encP 2 w0 blk off (A ++ (X ++ (M ++ (Y ++ B)))).toArray w) := S
  have hn' : A.length + (X.length + (M.length + (Y.length + B.length))) = n := by simpa using hn
  have HN : Hid (A.length + (X.length + (M.length + (Y.length + B.length))) = n) := hn'
  have HXY : Hid (X.length = Y.length) := hxy
  have HA : Hid (a = A.length) := ha
  have HB : Hid (b = A.length + X.length + M.length) := hb
  have HC : Hid (c = X.length) := hc
  have hbn : b + c ≤ n := by omega
  have habn : a + c ≤ n := by omega
  have mixed := mixedP
  clear S hn hn' hxy ha hb hc
  go_enter Tryd.func51, Tryd.ntmps51
  go_wp2
  go_loopg [10] c (fun g s10 wr => ∃ (i : Nat) (l : List Pr), s10 = .int .i64 i ∧ i ≤ c ∧ c - i ≤ g ∧ l.length = n ∧ Aside (SWK encP 2 w0 blk off l.toArray wr) ∧ Hid (l = A ++ (Y.take i ++ (X.drop i ++ (M ++ (X.take i ++ (Y.drop i ++ B)))))))
  case atStart => exact ⟨0, _, rfl, Nat.zero_le _, by omega, by simpa using HN.out, S0, by show _ = _; simp⟩
  case round =>
    clear S0
    obtain ⟨i, l, rfl, hic, hg, hln, S1, HL⟩ := hrel
    by_cases hlt : i < c
    · have hltz : (i : Int) < (c : Int) := by omega
      have hX : i < X.length := by have := HC.out; omega
      have hY : i < Y.length := by have := HXY.out; omega
      have ea : ((a : Int) + (i : Int)).toNat = a + i := by omega
      have pa : (0 : Int) ≤ (a : Int) + (i : Int) := by omega
      have ba : (a : Int) + (i : Int) < (n : Int) := by omega
      have ra : IntKind.i64.wrap ((a : Int) + (i : Int)) = (a : Int) + (i : Int) := by rw [IntKind.wrap_i64]; omega
      have ec : ((b : Int) + (i : Int)).toNat = b + i := by omega
      have pc : (0 : Int) ≤ (b : Int) + (i : Int) := by omega
      have bc : (b : Int) + (i : Int) < (n : Int) := by omega
      have rc : IntKind.i64.wrap ((b : Int) + (i : Int)) = (b : Int) + (i : Int) := by rw [IntKind.wrap_i64]; omega
      have hs : l.toArray.size = n := by simpa using hln
      have S2 : Aside (SWK encP 2 w0 blk off (swp l.toArray (a + i) (b + i)) ((wr.drew.setCells blk (off + (a + i) * 2) (encP l.toArray[b + i]!)).setCells blk (off + (b + i) * 2) (encP l.toArray[a + i]!))) := R.swapped S1.out hs (a + i) (b + i) (by omega) (by omega)
      have la := R.ld1 S1.out hs (a + i) (by omega)
      have lb := R.ld1 S1.out hs (b + i) (by omega)
      have sa := R.st1 S1.out hs (a + i) (by omega) l.toArray[b + i]!
      have sb := R.st2 S1.out hs (a + i) (b + i) (by omega) (by omega) l.toArray[b + i]! l.toArray[a + i]!
      have HSW : Hid (swp l.toArray (a + i) (b + i) = (A ++ (Y.take (i + 1) ++ (X.drop (i + 1) ++ (M ++ (X.take (i + 1) ++ (Y.drop (i + 1) ++ B)))))).toArray) := by
        show _ = _
        have e : l = (A ++ Y.take i) ++ X[i] :: ((X.drop (i + 1) ++ (M ++ X.take i)) ++ Y[i] :: (Y.drop (i + 1) ++ B)) := by
          rw [HL.out, List.drop_eq_getElem_cons hX, List.drop_eq_getElem_cons hY]; simp only [List.append_assoc, List.cons_append]
        rw [swp_at l _ _ _ _ _ (a + i) (b + i) e (by simp; have := HA.out; omega) (by simp; have := HB.out; have := HXY.out; omega), List.take_succ_eq_append_getElem hX, List.take_succ_eq_append_getElem hY]
        simp only [List.append_assoc, List.cons_append, List.nil_append]
      generalize l.toArray[b + i]! = yI at S2 lb sa sb
      generalize l.toArray[a + i]! = xI at S2 la sb
      clear S1 hs hX hY
      go_wp2_with fail
      go_big_region_o
      clear la lb sa sb
      generalize (wr.drew.setCells blk (off + (a + i) * 2) (encP yI)).setCells blk (off + (b + i) * 2) (encP xI) = w2 at S2 ⊢
      go_wp2
      go_roundg (c - (i + 1))
      case measure => omega
      case rel => exact ⟨i + 1, _, by go_num, by omega, Nat.le_refl _, by have := HN.out; have := HXY.out; have := HC.out; simp; omega, HSW.out ▸ S2, rfl⟩
    · have hltz : ¬ (i : Int) < (c : Int) := by omega
      go_wp2
      go_end0
      have e : l = A ++ (Y ++ (M ++ (X ++ B))) := by
        have h1 : X.length ≤ i := by have := HC.out; omega
        have h2 : Y.length ≤ i := by have := HXY.out; omega
        rw [HL.out, List.take_of_length_le h1, List.take_of_length_le h2, List.drop_eq_nil_of_le h1, List.drop_eq_nil_of_le h2]; simp
      exact ⟨rfl, e ▸ S1.out⟩
end Go.Proofs.YtjanhebckonbaaaDoor
