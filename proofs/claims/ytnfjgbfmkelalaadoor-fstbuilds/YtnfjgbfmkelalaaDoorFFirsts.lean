/- The reference's firsts. -/
import Derived.Test.YtnfjgbfmkelalaaDoorRisAll
import Derived.Test.YtnfjgbfmkelalaaDoorFRefM
namespace Go.Proofs.YtnfjgbfmkelalaaDoor
open Go.RowKit Nums Fm
set_option maxRecDepth 100000

namespace Fm
/-- First runes, one more. -/
def fstStep (acc : List Int) (e : En) : List Int := match e.1 with
  | [] => acc
  | c :: _ => if acc.getLast? = some c then acc else acc ++ [c]
def fsts (l : List En) : List Int := l.foldl fstStep []
theorem fsts_snoc {l : List En} {k : Nat} {e : En} (h : l[k]? = some e) : fsts (l.take (k + 1)) = fstStep (fsts (l.take k)) e := by
  rw [List.take_add_one, h]
  show fsts (l.take k ++ [e]) = _
  unfold fsts
  rw [List.foldl_append]
  rfl
theorem fstStep_len (acc : List Int) (e : En) : (fstStep acc e).length ≤ acc.length + 1 := by
  unfold fstStep
  split
  · omega
  · split <;> simp
theorem fstF_len : ∀ (l : List En) (acc : List Int), (l.foldl fstStep acc).length ≤ acc.length + l.length
  | [], _ => Nat.le_refl _
  | e :: r, acc => by
    have h1 := fstF_len r (fstStep acc e)
    have h2 := fstStep_len acc e
    simp only [List.foldl_cons, List.length_cons]
    omega
theorem fsts_len (l : List En) : (fsts l).length ≤ l.length := by have := fstF_len l []; simpa [fsts] using this
def fstMore (acc cs : List Int) : List Int := match cs with
  | [] => []
  | c :: r => if acc.getLast? = some c then r else c :: r
theorem fst_grp : ∀ (l : List En) (acc : List Int), (∀ e ∈ l, e.1 ≠ []) → l.foldl fstStep acc = acc ++ fstMore acc ((grp l).map (·.1))
  | [], acc, _ => by simp [grp, fstMore]
  | e :: r, acc, h => by
    obtain ⟨x, n⟩ := e
    cases x with
    | nil => exact absurd rfl (h ([], n) (by simp))
    | cons c t =>
      have ih := fst_grp r (fstStep acc (c :: t, n)) (fun e he => h e (by simp [he]))
      rw [List.foldl_cons, ih]
      have hst : fstStep acc (c :: t, n) = if acc.getLast? = some c then acc else acc ++ [c] := rfl
      have hlast : (fstStep acc (c :: t, n)).getLast? = some c := by
        rw [hst]
        split
        · assumption
        · simp
      have hhd : hd (c :: t, n) = c := rfl
      rw [grp]
      cases hg : grp r with
      | nil =>
        simp only [List.map_nil, List.map_cons, fstMore, hhd, hst]
        split <;> simp
      | cons p gs =>
        obtain ⟨c', G⟩ := p
        simp only [hhd, List.map_cons, fstMore, hlast]
        by_cases hc : c = c'
        · subst hc
          simp only [if_true, List.map_cons, hst]
          split <;> simp
        · have hc2 : ¬ some c = some c' := fun e => hc (Option.some.inj e)
          simp only [if_neg hc, if_neg hc2, List.map_cons, hst]
          split <;> simp
theorem fsts_grp {S : List En} (h : Rise S) : fsts S = (grp (restOf S)).map (·.1) := by
  obtain ⟨_, h2⟩ := rise_rest h
  have h3 : fsts S = (restOf S).foldl fstStep [] := by
    cases S with
    | nil => rfl
    | cons e r =>
      obtain ⟨x, n⟩ := e
      cases x with
      | nil => rfl
      | cons c t => rfl
  rw [h3, fst_grp _ _ h2, List.nil_append]
  cases (grp (restOf S)).map (·.1) with
  | nil => rfl
  | cons c r => simp [fstMore]
end Fm
def cellI (c : Int) : List Value := [.int .i32 c]
def IOwn (B : Nat) (w : World) (v : Value) (xs : List Int) : Prop := GOwn 21 1 B w v (xs.map cellI)
theorem rtyI : RTy 21 32 1 4 := ⟨by kernel_rfl, ⟨.int .i32 0, by kernel_rfl, rfl⟩, by decide, by decide⟩
theorem IOwn.last {B : Nat} {w : World} {ad : Option Addr} {n cap : Nat} {xs : List Int} (h : IOwn B w (.slice ad n cap) xs) (h0 : 0 < n) : ∃ g, ad = some ⟨g, 0, none⟩ ∧ n = xs.length ∧ ∃ d, xs.getLast? = some d ∧ w.cell? ⟨g, n - 1, none⟩ = some (.int .i32 d) := by
  obtain ⟨a', c', e, _⟩ := GOwn.shape h
  simp only [List.length_map, Value.slice.injEq] at e
  obtain ⟨e1, e2, e3⟩ := e
  subst e2
  obtain ⟨g, cp, e, _, _, _, hc⟩ := GOwn.cell h (by rw [List.length_map]; exact h0)
  simp only [List.length_map, Value.slice.injEq] at e
  obtain ⟨d, hd⟩ : ∃ d, xs[xs.length - 1]? = some d := ⟨xs[xs.length - 1]'(by omega), List.getElem?_eq_getElem _⟩
  refine ⟨g, e.1, rfl, d, by rw [List.getLast?_eq_getElem?]; exact hd, ?_⟩
  have := hc (xs.length - 1) 0 (cellI d) (.int .i32 d) (by rw [List.getElem?_map, hd]; rfl) rfl
  simpa using this
set_option maxHeartbeats 2000000 in
theorem refFirsts_any (E : Nat) (w : World) (v : Value) (l : List En) (h : RR E w v l) (hl : l.length ≤ 1048576) :
    Calls Tryd.prog 47 #[v] w fun e w' => ∃ v', e = .returned v' ∧ IOwn w.heap.size w' v' (fsts l) ∧ Below w.heap.size w w' := by
  obtain ⟨ad, cap, rfl⟩ := h.form
  obtain ⟨n, hn⟩ : ∃ n, l.length = n := ⟨_, rfl⟩
  have HN : Hid (l.length = n) := hn
  rw [hn] at h hl ⊢
  have HR : Hid (RR E w (.slice ad n cap) l) := h
  clear h hn
  go_enter Tryd.func47, Tryd.ntmps47
  go_wp2
  go_loopg [3, 4] n (fun gm s5 s6 wr => ∃ (k : Nat), s6 = .int .i64 k ∧ k ≤ n ∧ n - k ≤ gm ∧ Hid (IOwn w.heap.size wr s5 (fsts (l.take k))) ∧ Hid (Below w.heap.size w wr))
  case atStart => exact ⟨0, rfl, Nat.zero_le _, by omega, GOwn.nil _ _ _ _, Below.refl _ _⟩
  case round =>
    obtain ⟨k, rfl, hk, hgm, HM, HB⟩ := hrel
    obtain ⟨sd, no, sc, hsv⟩ : ∃ sd no sc, u3 = .slice sd no sc := by
      obtain ⟨sd, sc, hsv, _⟩ := GOwn.shape HM.out
      exact ⟨sd, _, sc, hsv⟩
    subst hsv
    by_cases hlt : k < n
    · have hltz : (k : Int) < (n : Int) := by omega
      obtain ⟨x, hxk⟩ : ∃ x, l[k]? = some x := ⟨l[k]'(by have := HN.out; omega), List.getElem?_eq_getElem _⟩
      obtain ⟨g, off, rfl, hg, hx⟩ := HR.out.at (by omega)
      obtain ⟨u, ⟨c0, c1, hr⟩, hck⟩ := hx k x hxk
      obtain ⟨ra, rc, hu, _⟩ := id hr
      obtain ⟨rn, hrn⟩ : ∃ rn, x.1.length = rn := ⟨_, rfl⟩
      rw [hrn] at hu
      subst hu
      have c0r : wr.cell? ⟨g, off + k * 2, none⟩ = some (.slice ra rn rc) := (HB.out.cell (p := ⟨g, off + k * 2, none⟩) hg).trans c0
      have hAF := fsts_snoc hxk
      by_cases hr0 : 0 < rn
      · have hr0z : (0 : Int) < (rn : Int) := by omega
        obtain ⟨gr, o, rfl, hz, hd⟩ := hr.get (k := 0) (by omega)
        clear hz
        obtain ⟨ch, hch⟩ : ∃ ch, x.1.headD 0 = ch := ⟨_, rfl⟩
        rw [Nat.add_zero, List.drop_zero, hch] at hd
        have hgr : gr < w.heap.size := lt_of_cell hd
        have d0 : wr.cell? ⟨gr, o, none⟩ = some (.int .i32 ch) := (HB.out.cell (p := ⟨gr, o, none⟩) hgr).trans hd
        have hAF2 : fsts (l.take (k + 1)) = if (fsts (l.take k)).getLast? = some ch then fsts (l.take k) else fsts (l.take k) ++ [ch] := by
          rw [hAF, fstStep]
          cases hx1 : x.1 with
          | nil => rw [hx1] at hrn; simp at hrn; omega
          | cons a t => rw [hx1] at hch; simp only [List.headD_cons] at hch; rw [hch]
        have HNO : Hid (no = (fsts (l.take k)).length) := by
          obtain ⟨_, _, e, _⟩ := GOwn.shape HM.out
          simp only [List.length_map, Value.slice.injEq] at e
          exact e.2.1
        clear hAF
        by_cases hno : 0 < no
        · obtain ⟨gl, rfl, hzz, d, hd1, hd2⟩ := IOwn.last HM.out hno
          clear hzz
          obtain ⟨m, hm⟩ : ∃ m, m = no - 1 := ⟨_, rfl⟩
          have hnom : no ≤ 1048576 := by
            have h1 := HNO.out
            have h2 := fsts_len (l.take k)
            rw [List.length_take] at h2
            omega
          have hwr : IntKind.i64.wrap ((no : Int) - 1) = (m : Int) := by simp [IntKind.wrap, IntKind.bits, IntKind.signed]; omega
          have hmz : (m : Int) < (no : Int) := by omega
          rw [← hm] at hd2
          clear hm hnom
          have hnoz : ((no : Int) == 0) = false := beq_eq_false_iff_ne.2 (by omega)
          by_cases hdc : d = ch
          · have hdb : (d == ch) = true := beq_iff_eq.2 hdc
            rw [hd1, hdc, if_pos rfl] at hAF2
            have HM2 : Hid (IOwn w.heap.size wr (.slice (some ⟨gl, 0, none⟩) no sc) (fsts (l.take (k + 1)))) := by show IOwn _ _ _ _; rw [hAF2]; exact HM.out
            clear hAF2 hx hr hrn hck c0 c1 hxk hd hd1 hch hdc
            go_upto_region 5 with fail
            go_quiet (fail)
            go_wp2
            go_roundg (n - (k + 1))
            case measure => omega
            case rel => exact ⟨k + 1, by go_num, by omega, Nat.le_refl _, GOwn.below HM2.out (belowN (Below.refl _ wr) _), HB.out.trans ((belowN (Below.refl _ wr) _).mono HB.out.size)⟩
          · have hdb : (d == ch) = false := beq_eq_false_iff_ne.2 hdc
            rw [hd1, if_neg (fun e => hdc (Option.some.inj e))] at hAF2
            have HAF : Hid (fsts (l.take (k + 1)) = fsts (l.take k) ++ [ch]) := hAF2
            clear hAF2 hx hr hrn hck c0 c1 hxk hd hd1 hch hdc
            go_upto_region 5 with fail
            go_quiet (fail)
            go_upto_region 6 with fail
            clear hd2
            obtain ⟨wz, hwz⟩ : ∃ wz, wz = wr.drewN nq := ⟨_, rfl⟩
            rw [← hwz]
            have hbz : Below wr.heap.size wr wz := by rw [hwz]; exact belowN (Below.refl _ wr) nq
            have cz : wz.cell? ⟨g, off + k * 2, none⟩ = some (.slice (some ⟨gr, o, none⟩) rn rc) := by rw [hwz]; exact c0r
            have dz : wz.cell? ⟨gr, o, none⟩ = some (.int .i32 ch) := by rw [hwz]; exact d0
            have HBZ : Hid (Below w.heap.size w wz) := HB.out.trans (hbz.mono HB.out.size)
            have HO : Hid (GOwn 21 1 w.heap.size wz _ ((fsts (l.take k)).map cellI)) := GOwn.below HM.out hbz
            have HLN : Hid (((fsts (l.take k)).map cellI).length < 1099511627776) := by
              have := fsts_len (l.take k)
              show _ < _
              rw [List.length_map]
              rw [List.length_take] at this
              omega
            clear hwz c0r d0 hbz
            go_wp2_with (at_builtin; refine append_g rtyI (by rfl) _ _ [.int .i32 ch] _ rfl w.heap.size _ _ _ _ rfl HO.out rfl rfl ⟨rfl, by simp [Value.oneCell']⟩ HLN.out HBZ.out.size ?_)
            intro v7 w7 ho7 hb7 hg7
            have HB7 : Hid (Below w.heap.size w w7) := HBZ.out.trans hb7
            have HM7 : Hid (IOwn w.heap.size w7 v7 (fsts (l.take (k + 1)))) := by
              show IOwn _ _ _ _
              rw [HAF.out]
              show GOwn _ _ _ _ _ _
              rw [List.map_append]
              exact ho7
            clear ho7 hb7 hg7 cz dz
            go_wp2
            go_roundg (n - (k + 1))
            case measure => omega
            case rel => exact ⟨k + 1, by go_num, by omega, Nat.le_refl _, HM7, HB7⟩
        · have hno0 : no = 0 := by omega
          subst hno0
          have hnoz : (((0 : Nat) : Int) == 0) = true := rfl
          have hl0 : (fsts (l.take k)).getLast? = none := by rw [List.getLast?_eq_none_iff]; exact List.eq_nil_of_length_eq_zero HNO.out.symm
          rw [hl0, if_neg (by simp)] at hAF2
          have HAF : Hid (fsts (l.take (k + 1)) = fsts (l.take k) ++ [ch]) := hAF2
          clear hAF2 hx hr hrn hck c0 c1 hxk hd hch hl0 hno
          go_upto_region 5 with fail
          go_quiet (fail)
          go_upto_region 6 with fail
          obtain ⟨wz, hwz⟩ : ∃ wz, wz = wr.drewN nq := ⟨_, rfl⟩
          rw [← hwz]
          have hbz : Below wr.heap.size wr wz := by rw [hwz]; exact belowN (Below.refl _ wr) nq
          have cz : wz.cell? ⟨g, off + k * 2, none⟩ = some (.slice (some ⟨gr, o, none⟩) rn rc) := by rw [hwz]; exact c0r
          have dz : wz.cell? ⟨gr, o, none⟩ = some (.int .i32 ch) := by rw [hwz]; exact d0
          have HBZ : Hid (Below w.heap.size w wz) := HB.out.trans (hbz.mono HB.out.size)
          have HO : Hid (GOwn 21 1 w.heap.size wz _ ((fsts (l.take k)).map cellI)) := GOwn.below HM.out hbz
          have HLN : Hid (((fsts (l.take k)).map cellI).length < 1099511627776) := by
            have := fsts_len (l.take k)
            show _ < _
            rw [List.length_map]
            rw [List.length_take] at this
            omega
          clear hwz c0r d0 hbz
          go_wp2_with (at_builtin; refine append_g rtyI (by rfl) _ _ [.int .i32 ch] _ rfl w.heap.size _ _ _ _ rfl HO.out rfl rfl ⟨rfl, by simp [Value.oneCell']⟩ HLN.out HBZ.out.size ?_)
          intro v7 w7 ho7 hb7 hg7
          have HB7 : Hid (Below w.heap.size w w7) := HBZ.out.trans hb7
          have HM7 : Hid (IOwn w.heap.size w7 v7 (fsts (l.take (k + 1)))) := by
            show IOwn _ _ _ _
            rw [HAF.out]
            show GOwn _ _ _ _ _ _
            rw [List.map_append]
            exact ho7
          clear ho7 hb7 hg7 cz dz
          go_wp2
          go_roundg (n - (k + 1))
          case measure => omega
          case rel => exact ⟨k + 1, by go_num, by omega, Nat.le_refl _, HM7, HB7⟩
      · have hr0z : ¬ (0 : Int) < (rn : Int) := by omega
        have hx1 : x.1 = [] := List.eq_nil_of_length_eq_zero (by omega)
        rw [fstStep, hx1] at hAF
        have HM2 : Hid (IOwn w.heap.size wr (.slice sd no sc) (fsts (l.take (k + 1)))) := by show IOwn _ _ _ _; rw [hAF]; exact HM.out
        clear hAF hx hr hrn hck c0 c1 hxk hx1
        go_upto_region 5 with fail
        go_quiet (fail)
        go_wp2
        go_roundg (n - (k + 1))
        case measure => omega
        case rel => exact ⟨k + 1, by go_num, by omega, Nat.le_refl _, GOwn.below HM2.out (belowN (Below.refl _ wr) _), HB.out.trans ((belowN (Below.refl _ wr) _).mono HB.out.size)⟩
    · have hltz : ¬ (k : Int) < (n : Int) := by omega
      have HE : Hid (l.take k = l) := List.take_of_length_le (by have := HN.out; omega)
      go_wp2
      go_ret
      exact ⟨_, rfl, by have := HM.out; rwa [HE.out] at this, HB.out⟩
end Go.Proofs.YtnfjgbfmkelalaaDoor
