/- BestAnyhow: the law's own walk. -/
import Derived.Test.YtmpfcdffpjocnaaBtSelW
import Derived.Test.YtmpfcdffpjocnaaBtInts
namespace Go.Proofs.Ytmpfcdffpjocnaa
open Go.RowKit Go.Lib Nums Pm
set_option maxRecDepth 100000
namespace Bt
theorem addr_add (g off j : Nat) : (⟨g, off, none⟩ : Addr).add j = ⟨g, off + j, none⟩ := by unfold Addr.add; split <;> simp_all
/-- 'append(s, l...)' at an empty s. -/
theorem append_mts {w : World} {B : Nat} {v s : Value} {m : List Mt} (hown : GOwn 23 3 B w v []) (hr : MRow w s m) (hB : B ≤ w.heap.size) (hm : m.length ≤ 4398046511104) (ty : TypeId) :
    ∃ v' w', (Builtin.append_ #[27, 27] ty #[v, s]).run Try.prog w = .ok v' w' ∧ GOwn 23 3 B w' v' (m.map cellsM) ∧ w.grownBy w' v.ownBlock := by
  obtain ⟨z, hz, hzs⟩ := rtyM.inf
  obtain ⟨i0, hi, hz0, hz1, hz2⟩ := info_parts hz
  obtain ⟨ad, cap, rfl⟩ := hr.form
  have hml : 0 + m.length ≤ maxLen := by simp only [maxLen]; omega
  have hby : (0 + m.length) * 32 ≤ 140737488355328 := by omega
  rcases Nat.eq_zero_or_pos m.length with h0 | h0
  · have hm0 : m = [] := List.eq_nil_of_length_eq_zero h0
    subst hm0
    refine ⟨v, w, ?_, hown, ⟨rfl, rfl, rfl, Nat.le_refl _, fun _ _ _ => rfl⟩⟩
    obtain ⟨_, _, h2⟩ := hown
    rcases h2 with ⟨rfl, _⟩ | ⟨g, cap', cur, rfl, _⟩
    · cases ad <;> go_simp
    · cases ad <;> go_simp
  · obtain ⟨ad', cap', hv, hc⟩ := hr.ex
    obtain ⟨g, off, e, hg, hx⟩ := hc (by rw [List.length_map]; exact h0)
    simp only [Value.slice.injEq] at hv
    rw [e] at hv
    obtain ⟨rfl, _, _⟩ := hv
    have hl3 : ∀ x ∈ m.map cellsM, x.length = 3 := fun x hx => by
      obtain ⟨q, _, rfl⟩ := List.mem_map.1 hx
      rfl
    have hfl : ∀ (xs : List (List Value)), (∀ x ∈ xs, x.length = 3) → xs.flatten.length = xs.length * 3 := by
      intro xs
      induction xs with
      | nil => intro _; rfl
      | cons y r ih => intro hk; rw [List.flatten_cons, List.length_append, hk y (by simp), ih (fun z hz => hk z (by simp [hz])), List.length_cons]; omega
    have hflat := hfl _ hl3
    rw [List.length_map] at hflat
    obtain ⟨v', w', h1, h2, h3, _⟩ := run_append_own (P := Try.prog) w B 27 ty 23 i0 z 3 32 rtyM.und hi hz0 hz1 hz2 hzs (by decide) v 0 [] hown.2 ⟨g, off, none⟩ m.length cap (m.map cellsM).flatten hflat (fun j u hj => by
      rw [addr_add]
      have hjl := (List.getElem?_eq_some_iff.1 hj).1
      have hq : j / 3 < m.length := by omega
      have e1 : (m.map cellsM)[j / 3]? = some (cellsM (el m (j / 3))) := by rw [List.getElem?_map, el_get hq]; rfl
      have h3l : j % 3 < 3 := Nat.mod_lt _ (by decide)
      obtain ⟨u', hu'⟩ : ∃ u', (cellsM (el m (j / 3)))[j % 3]? = some u' := ⟨(cellsM (el m (j / 3)))[j % 3]'(by simpa [cellsM] using h3l), List.getElem?_eq_getElem _⟩
      have h4 := flat_get (k := 3) (m.map cellsM) hl3 (j / 3) (j % 3) _ u' e1 hu'
      rw [show j / 3 * 3 + j % 3 = j by omega, hj] at h4
      have h5 := hx (j / 3) (j % 3) _ u' e1 hu'
      rw [show off + j / 3 * 3 + j % 3 = off + j by omega] at h5
      rw [h5, ← h4]) (fun u hu => by
      obtain ⟨x, hx1, hx2⟩ := List.mem_flatten.1 hu
      obtain ⟨q, _, rfl⟩ := List.mem_map.1 hx1
      exact (cellsM_ok q).2 u hx2) hml hby hB
    refine ⟨v', w', h1, ⟨fun x hx => ?_, ?_⟩, h3⟩
    · obtain ⟨q, _, rfl⟩ := List.mem_map.1 hx
      exact cellsM_ok q
    · rw [List.length_map]
      simpa using h2
theorem append_a {W : World} {ops : Array Oper} {rest : List Oper} {o : Oper} {a : Act} {Q : Exit → Act → World → Prop} (hgd : o.guard = none) (s y : Operand)
    (ho : o.op = .call { callee := .builtin .append, args := #[s, y], argTypes := #[27, 27] }) (B : Nat) (v sv : Value) (m : List Mt) (hs : a.eval s = v) (hown : GOwn 23 3 B W v []) (hy : a.eval y = sv) (hr : MRow W sv m) (hm : m.length ≤ 4398046511104) (hB : B ≤ W.heap.size)
    (h : ∀ v' w', GOwn 23 3 B w' v' (m.map cellsM) → Below B W w' → wpList Try.prog ops Q rest (a.put o.dst v') w') : wpList Try.prog ops Q (o :: rest) a W := by
  obtain ⟨v', w', h1, h2, h3⟩ := append_mts hown hr hB hm o.type
  refine wpList_plain hgd fun _ hK => ?_
  unfold Oper.wp execOp
  simp only [ho, resolve, invoke, builtin, Sem.run_bind, Sem.run_pure, Result.andThen_ok, List.map_toArray, List.map_cons, List.map_nil, hs, hy, h1]
  exact hK _ _ (h v' w' h2 (gBelow hown h3 hB))
/-- What a swap in a row comes to. -/
theorem swap_facts {B : Nat} {w : World} {g n cap : Nat} {h : List Mt} (H : GOwn 23 3 B w (.slice (some ⟨g, 0, none⟩) n cap) (h.map cellsM)) (hn : n = h.length) (i j : Nat) (hi : i < n) (hj : j < n) :
    ∃ W1 W2, loadM Try.prog (.pointer (some ⟨g, i * 3, none⟩)) w.drew = .ok (valM (el h i)) w.drew ∧ loadM Try.prog (.pointer (some ⟨g, j * 3, none⟩)) w.drew = .ok (valM (el h j)) w.drew ∧ storeM Try.prog (.pointer (some ⟨g, i * 3, none⟩)) (valM (el h j)) w.drew = .ok () W1 ∧ storeM Try.prog (.pointer (some ⟨g, j * 3, none⟩)) (valM (el h i)) W1 = .ok () W2 ∧
      GOwn 23 3 B W2 (.slice (some ⟨g, 0, none⟩) n cap) ((swp h i j).map cellsM) ∧ Upd (fun k => k = g) w W2 := by
  subst hn
  obtain ⟨g', cap', hv, hg, _, hcap, hc⟩ := GOwn.mt H (by omega)
  simp only [Value.slice.injEq, Option.some.injEq, Addr.mk.injEq, and_true] at hv
  obtain ⟨rfl, _, _⟩ := hv
  obtain ⟨i0, i1, i2, f0, f1, f2⟩ := hc i hi
  obtain ⟨j0, j1, j2, _⟩ := hc j hj
  have H1 : GOwn 23 3 B (w.drew.setCells g (i * 3) (cellsM (el h j))) (.slice (some ⟨g, 0, none⟩) h.length cap) ((h.set i (el h j)).map cellsM) := by
    rw [map_set]
    exact GOwn.put (w := w.drew) H (by simp) i (by simpa using hi) _ (cellsM_ok _)
  have H2 : GOwn 23 3 B ((w.drew.setCells g (i * 3) (cellsM (el h j))).setCells g (j * 3) (cellsM (el h i))) (.slice (some ⟨g, 0, none⟩) h.length cap) ((swp h i j).map cellsM) := by
    unfold swp
    rw [map_set]
    exact GOwn.put H1 (by simp) j (by simpa using hj) _ (cellsM_ok _)
  refine ⟨_, _, loadM_at i0 i1 i2, loadM_at j0 j1 j2, storeM_at i0 i1 i2 f0 f1 f2, ?_, H2, Upd.setCells (F := fun k => k = g) rfl _ _ (Upd.setCells (F := fun k => k = g) rfl _ _ (Upd.refl _ w).drew)⟩
  obtain ⟨g', cap', hv, _, _, _, hc'⟩ := GOwn.mt H1 (by simp; omega)
  simp only [Value.slice.injEq, Option.some.injEq, Addr.mk.injEq, and_true] at hv
  obtain ⟨rfl, _, _⟩ := hv
  obtain ⟨k0, k1, k2, e0, e1, e2⟩ := hc' j (by simpa using hj)
  exact storeM_at k0 k1 k2 e0 e1 e2
theorem best_anyhow (k : Nat) {l m : List Mt} (h : m.Perm l) : bestF k m = bestF k l := by rw [bestF_isort, bestF_isort, isort_of_perm h]
theorem empty_own (w : World) : GOwn 23 3 w.heap.size (w.alloc (.cells #[] 23)) (.slice (some ⟨w.heap.size, 0, none⟩) 0 0) [] :=
  ⟨by simp, rfl, .inr ⟨w.heap.size, 0, #[], rfl, Nat.le_refl _, alloc_newM _ _, Nat.le_refl _, Nat.zero_le _, rfl, rfl⟩⟩
attribute [local go_sem ↓] exec_load_M exec_store_M
set_option maxHeartbeats 2000000 in
theorem anyhow_walk (v vo : Value) (k : Int) (w : World) (l : List Mt) (h : MRow w v l) (_ : ∀ x ∈ l, SmM x) (hl : l.length ≤ 4398046511104) (ps : List Int) (hI : IntsAt w vo ps) (_ : -9223372036854775808 ≤ k ∧ k ≤ 9223372036854775807) :
    Calls Try.prog 7 #[v, vo, .int .i64 k] w fun e w' => e = .returned (.bool true) ∧ Below w.heap.size w w' := by
  have HROW : Hid (MRow w v l) := h
  have HLL : Hid (l.length ≤ 4398046511104) := hl
  have HINT : Hid (IntsAt w vo ps) := hI
  obtain ⟨ado, capo, hvo, hco, hno, hio, hbo⟩ := hI
  obtain ⟨no, hpn⟩ : ∃ no, ps.length = no := ⟨_, rfl⟩
  have HPN : Hid (ps.length = no) := hpn
  rw [hpn] at hvo hno
  subst hvo
  have HIO : Hid (0 < ps.length → ∃ b off, ado = some ⟨b, off, none⟩ ∧ b < w.heap.size ∧ ∀ (j : Nat) x, ps[j]? = some x → w.cell? ⟨b, off + j, none⟩ = some (.int .i64 x)) := hio
  obtain ⟨V1, hV1⟩ : ∃ V1, w.alloc (.cells #[] 23) = V1 := ⟨_, rfl⟩
  have hb1 : Below w.heap.size w V1 := by rw [← hV1]; exact (Below.refl _ w).alloc (Nat.le_refl _) _
  have HE : Hid (GOwn 23 3 w.heap.size V1 (.slice (some ⟨w.heap.size, 0, none⟩) 0 0) []) := by show GOwn _ _ _ _ _ _; rw [← hV1]; exact empty_own w
  have HB1 : Hid (Below w.heap.size w V1) := hb1
  have HR1 : Hid (MRow V1 v l) := h.below hb1
  obtain ⟨ad, cap, hv⟩ := h.form
  subst hv
  obtain ⟨n, hn⟩ : ∃ n, l.length = n := ⟨_, rfl⟩
  have HN : Hid (l.length = n) := hn
  rw [hn] at HROW HR1 ⊢
  clear h hl hco hpn hio hbo hb1 hn
  go_enter Try.func7, Try.ntmps7
  go_upto_region 2 with (at_builtin; refine append_a (by rfl) _ _ rfl w.heap.size _ _ l rfl HE.out rfl HR1.out HLL.out HB1.out.size ?_; intro vm w2 hg2 hb2)
  have HBM : Hid (Below w.heap.size w w2) := HB1.out.trans hb2
  obtain ⟨dm, cm, hvm, hcm⟩ := hg2.shape
  rw [List.length_map, HN.out] at hvm hcm
  subst hvm
  have HR0 : Hid (∃ ms : List Mt, GOwn 23 3 w.heap.size w2 (.slice dm n cm) (ms.map cellsM) ∧ ms.Perm l ∧ Below w.heap.size w w2) := ⟨l, hg2, .refl _, HBM.out⟩
  have hn40 : n ≤ 4398046511104 := by have := HN.out; have := HLL.out; omega
  clear hg2 hb2 hV1
  go_wp2
  go_loopg [15] no (fun g s15 wr => ∃ (j : Nat), s15 = .int .i64 j ∧ j ≤ no ∧ no - j ≤ g ∧ Hid (∃ ms : List Mt, GOwn 23 3 w.heap.size wr (.slice dm n cm) (ms.map cellsM) ∧ ms.Perm l ∧ Below w.heap.size w wr))
  case atStart => exact ⟨0, rfl, Nat.zero_le _, by omega, HR0⟩
  case round =>
    obtain ⟨j, rfl, hjn, hg, HR⟩ := hrel
    obtain ⟨ms, hms, hpm, hbm⟩ := HR.out
    have HMS : Hid (GOwn 23 3 w.heap.size wr (.slice dm n cm) (ms.map cellsM)) := hms
    have HPM : Hid (ms.Perm l) := hpm
    have HB : Hid (Below w.heap.size w wr) := hbm
    have HML : Hid (ms.length = n) := by show ms.length = n; rw [hpm.length_eq]; exact HN.out
    clear hms hpm hbm
    by_cases hlt : j < no
    · have hltz : (j : Int) < (no : Int) := by omega
      obtain ⟨x, hx⟩ : ∃ x, ps[j]? = some x := ⟨ps[j]'(by have := HPN.out; omega), List.getElem?_eq_getElem _⟩
      obtain ⟨bo, oo, hao, hbo, hco⟩ := HIO.out (by have := HPN.out; omega)
      subst hao
      have hcx : wr.cell? ⟨bo, oo + j, none⟩ = some (.int .i64 x) := (HB.out.cell (p := ⟨bo, oo + j, none⟩) hbo).trans (hco j x hx)
      clear hco hx hbo
      by_cases c1 : j < n
      · have c1z : (j : Int) < (n : Int) := by omega
        by_cases c2 : 0 ≤ x
        · by_cases c3 : x < (n : Int)
          · obtain ⟨m, hxm⟩ : ∃ m : Nat, x = (m : Int) := ⟨x.toNat, by omega⟩
            subst hxm
            have c3n : m < n := by omega
            obtain ⟨gm, hdm⟩ : ∃ gm, dm = some ⟨gm, 0, none⟩ := by
              obtain ⟨_, _, ⟨e, _⟩ | ⟨g, c, cur, e, _⟩⟩ := HMS.out
              · simp only [Value.slice.injEq] at e; omega
              · simp only [Value.slice.injEq] at e; exact ⟨g, e.1⟩
            subst hdm
            obtain ⟨W1, W2, li, lj, si, sj, hG, hU⟩ := swap_facts HMS.out HML.out.symm j m c1 c3n
            have HR2 : Hid (∃ ms : List Mt, GOwn 23 3 w.heap.size W2 (.slice (some ⟨gm, 0, none⟩) n cm) (ms.map cellsM) ∧ ms.Perm l ∧ Below w.heap.size w W2) := ⟨swp ms j m, hG, (swp_perm ms j m (by have := HML.out; omega) (by have := HML.out; omega)).trans HPM.out, HB.out.trans (hU.below (fun q e => by have e' : q = gm := e; rw [e']; exact (HMS.out.block rfl).1) HB.out.size)⟩
            have mixed := mixedB
            obtain ⟨yi, hyi⟩ : ∃ y, el ms j = y := ⟨_, rfl⟩
            obtain ⟨yj, hyj⟩ : ∃ y, el ms m = y := ⟨_, rfl⟩
            rw [hyi] at li sj
            rw [hyj] at lj si
            clear hG hU hyi hyj HR HMS c2
            go_wp2_with fail
            go_big_region_o
            clear li lj si sj
            go_wp2
            go_roundg (no - (j + 1))
            case measure => omega
            case rel => exact ⟨j + 1, by go_num, by omega, Nat.le_refl _, HR2⟩
          · have c3z : ¬ x < (n : Int) := c3
            go_wp2
            go_roundg (no - (j + 1))
            case measure => omega
            case rel => exact ⟨j + 1, by go_num, by omega, Nat.le_refl _, HR⟩
        · have c2z : ¬ 0 ≤ x := c2
          go_wp2
          go_roundg (no - (j + 1))
          case measure => omega
          case rel => exact ⟨j + 1, by go_num, by omega, Nat.le_refl _, HR⟩
      · have c1z : ¬ (j : Int) < (n : Int) := by omega
        go_wp2
        go_roundg (no - (j + 1))
        case measure => omega
        case rel => exact ⟨j + 1, by go_num, by omega, Nat.le_refl _, HR⟩
    · have hjz : ¬ (j : Int) < (no : Int) := by omega
      obtain ⟨L, hL⟩ : ∃ L, bestF (kk k) l = L := ⟨_, rfl⟩
      have HL : Hid (bestF (kk k) l = L) := hL
      have HLM : Hid (bestF (kk k) ms = L) := by show _ = _; rw [best_anyhow _ HPM.out]; exact hL
      have HLS : Hid (L.length < 549755813888) := by have := best_small k l; rw [hL] at this; show L.length < _; omega
      clear hL
      go_wp2_with (first
        | (go_at_call 10; refine (alive_any wr).mono ?_; rintro e w3 ⟨rfl, hb3⟩; have HB3 : Hid (Below w.heap.size w w3) := HB.out.trans (hb3.mono HB.out.size); have HM3 : Hid (MRow w3 (.slice dm n cm) ms) := (GOwn.reads_m HMS.out).below hb3; clear hb3)
        | (go_at_call 14; refine (Select_any w3 (.slice ad n cap) l k (HROW.out.below HB3.out) (by have := HLL.out; omega)).mono ?_; rintro e w4 ⟨v4, rfl, hg4, hb4⟩; rw [HL.out] at hg4; have HR4 : Hid (MRow w4 v4 L) := GOwn.reads_m hg4; have HM4 : Hid (MRow w4 (.slice dm n cm) ms) := HM3.out.below hb4; have HB4 : Hid (Below w.heap.size w w4) := HB3.out.trans (hb4.mono HB3.out.size); clear hb4 hg4 HB3)
        | (go_at_call 14; refine (Select_any w4 (.slice dm n cm) ms k HM4.out (by have := HML.out; omega)).mono ?_; rintro e w5 ⟨v5, rfl, hg5, hb5⟩; rw [HLM.out] at hg5; have HR5 : Hid (MRow w5 v5 L) := GOwn.reads_m hg5; have HR45 : Hid (MRow w5 v4 L) := HR4.out.below hb5; have HB5 : Hid (Below w.heap.size w w5) := HB4.out.trans (hb5.mono HB4.out.size); clear hb5 hg5)
        | (go_at_call 13; refine (same12_any w5 v4 v5 L HR45.out HR5.out HLS.out).mono ?_; rintro e w6 ⟨rfl, q, hq⟩; have HB6 : Hid (Below w.heap.size w w6) := (by rw [hq]; exact belowN HB5.out q); clear hq))
      go_ret
      exact ⟨rfl, HB6.out⟩
end Bt
end Go.Proofs.Ytmpfcdffpjocnaa
