/-
  The walk of the law of what was naked and is asked for as told.
-/
import Derived.Test.YtiadndcodjpijaaPoC
import Derived.Test.YtiadndcodjpijaaPoMath6
import Derived.Test.YtiadndcodjpijaaBits
import Derived.Test.YtiadndcodjpijaaText
import Derived.Test.YtiadndcodjpijaaOwnO
import Derived.Deep.QuietTactic
import Derived.BigQuiet
namespace Go.Proofs.Ytiadndcodjpijaa.Pl
open Go.RowKit
theorem conv_four' (W : World) (B : Nat) (p q r t : UInt8) (x y z u : Int) (hx : (p.toNat : Int) = x) (hy : (q.toNat : Int) = y) (hz : (r.toNat : Int) = z) (hu : (t.toNat : Int) = u)
    (h0 : W.cell? ⟨B, 0, none⟩ = some (.int .u8 x)) (h1 : W.cell? ⟨B, 1, none⟩ = some (.int .u8 y)) (h2 : W.cell? ⟨B, 2, none⟩ = some (.int .u8 z)) (h3 : W.cell? ⟨B, 3, none⟩ = some (.int .u8 u)) :
    (convert 43 9 (.slice (some ⟨B, 0, none⟩) 4 4)).run Try.prog W = .ok (.string { data := [p, q, r, t].toArray }) W := by
  refine run_convert_bytes_back W 43 9 5 ⟨B, 0, none⟩ 4 [p, q, r, t] Try.underlying43 Try.underlying5 Try.underlying9 ?_
  intro j hj
  rw [box_add]
  match j, hj with
  | 0, _ => rw [h0, ← hx]; rfl
  | 1, _ => rw [h1, ← hy]; rfl
  | 2, _ => rw [h2, ← hz]; rfl
  | 3, _ => rw [h3, ← hu]; rfl
def rp (o p : Pol.Op) : Pol.Op := if p.1 == o.1 then o else p
def upd (o : Pol.Op) (k : Nat) (L : List Pol.Op) : List Pol.Op := (L.take k).map (rp o) ++ L.drop k
theorem upd_zero (o : Pol.Op) (L : List Pol.Op) : upd o 0 L = L := by simp [upd]
theorem upd_length (o : Pol.Op) (k : Nat) (L : List Pol.Op) : (upd o k L).length = L.length := by simp [upd]; omega
theorem upd_all (o : Pol.Op) (L : List Pol.Op) : upd o L.length L = L.map (rp o) := by simp [upd]
theorem upd_at (o : Pol.Op) (k : Nat) (L : List Pol.Op) (h : k < L.length) : (upd o k L)[k]'(by rw [upd_length]; exact h) = L[k] := by
  unfold upd
  rw [List.getElem_append_right (by simp; omega)]
  simp
  congr 1
  omega
theorem upd_succ (o : Pol.Op) (k : Nat) (L : List Pol.Op) (h : k < L.length) : upd o (k + 1) L = (upd o k L).set k (rp o L[k]) := by
  unfold upd
  rw [List.set_append_right _ _ (by simp; omega), List.take_succ_eq_append_getElem h, List.map_append, List.append_assoc]
  congr 1
  have e : k - (List.map (rp o) (List.take k L)).length = 0 := by simp; omega
  rw [e, List.drop_eq_getElem_cons h, List.set_cons_zero]
  rfl
theorem cellsO_set (o : Pol.Op) : ∀ (L : List Pol.Op) (k : Nat), cellsO (L.set k o) = (if k < L.length then ((cellsO L).set (2 * k) (.int .i64 o.1)).set (2 * k + 1) (.string ⟨o.2.toArray⟩) else cellsO L) := by
  intro L
  induction L with
  | nil => intro k; simp
  | cons f r ih =>
    intro k
    cases k with
    | zero => simp [cellsO_cons]
    | succ k =>
      rw [List.set_cons_succ, cellsO_cons, ih k, cellsO_cons, show 2 * (k + 1) = 2 * k + 1 + 1 by omega]
      by_cases h : k < r.length
      · rw [if_pos h, if_pos (by simpa using h)]
        simp only [List.set_cons_succ]
      · rw [if_neg h, if_neg (by simpa using h)]
theorem own_form {w W : World} {v : Value} {os : List Pol.Op} (h : OwnsO w W v os) (hn : 0 < os.length) : ∃ g cap, v = .slice (some ⟨g, 0, none⟩) os.length cap ∧ w.heap.size ≤ g := by
  rcases h.1.2 with ⟨_, h0⟩ | ⟨g, cap, cur, hv, hb, _⟩
  · omega
  · exact ⟨g, cap, hv, hb⟩
/-- What the loops hold: the link, the options that are written, those that were told. -/
structure Nk (w : World) (N X g : Nat) (wr : World) (M : Int) (L ns : List Pol.Op) : Prop where
  base : Below w.heap.size w wr
  link : Lnk N wr (Pol.ownM M)
  opts : Arr X wr (cellsO L)
  rs : ∀ j v, (cellsO ns)[j]? = some v → wr.cell? ⟨g, j, none⟩ = some v
  hX : w.heap.size ≤ X
  hN : N ≠ X
  hg : g ≠ X
theorem Nk.below {w wr W : World} {N X g : Nat} {M : Int} {L ns : List Pol.Op} (h : Nk w N X g wr M L ns) (k : Below wr.heap.size wr W) : Nk w N X g W M L ns :=
  ⟨bel2 h.base k, h.link.below k, h.opts.below k, fun j v hj => (k.cell (block_lt_of_cell (h.rs j v hj))).trans (h.rs j v hj), h.hX, h.hN, h.hg⟩
theorem Nk.put {w wr : World} {N X g : Nat} {M : Int} {L ns : List Pol.Op} (h : Nk w N X g wr M L ns) (k : Nat) (hk : k < L.length) (o : Pol.Op) :
    Nk w N X g ((wr.setCell ⟨X, 2 * k, none⟩ (.int .i64 o.1)).setCell ⟨X, 2 * k + 1, none⟩ (.string ⟨o.2.toArray⟩)) M (L.set k o) ns := by
  refine ⟨(h.base.setCell (p := ⟨X, 2 * k, none⟩) h.hX _).setCell (p := ⟨X, 2 * k + 1, none⟩) h.hX _, ?_, ?_, fun j v hj => ?_, h.hX, h.hN, h.hg⟩
  · obtain ⟨t, ht⟩ := h.link
    exact ⟨t, (Below.heap_setCell _ ⟨X, 2 * k + 1, none⟩ _ N h.hN).trans ((Below.heap_setCell _ ⟨X, 2 * k, none⟩ _ N h.hN).trans ht)⟩
  · rw [cellsO_set, if_pos hk]
    exact (h.opts.set (2 * k) _).set (2 * k + 1) _
  · rw [World.cell?_of_block (a := ⟨g, j, none⟩) (Below.heap_setCell _ ⟨X, 2 * k + 1, none⟩ _ g h.hg), World.cell?_of_block (a := ⟨g, j, none⟩) (Below.heap_setCell _ ⟨X, 2 * k, none⟩ _ g h.hg)]
    exact h.rs j v hj
theorem reads_arr {W : World} {X : Nat} {L : List Pol.Op} (h : Arr X W (cellsO L)) (hl : L.length = 3) : ReadsO W (.slice (some ⟨X, 0, none⟩) 3 3) L :=
  .inr ⟨X, 0, 3, by rw [hl], by omega, fun j u hj => by rw [Nat.zero_add]; exact h.cell j u hj⟩
set_option maxHeartbeats 3200000 in
set_option maxRecDepth 100000 in
theorem naks_good (m u v : Nat) (z0 z1 z2 : Int) (p0 p1 q0 q1 q2 q3 r0 r1 : UInt8) (ns F : List Pol.Op) (n : Nat) (w : World) (PO : Hid (PolOk w)) (h0 : bits .and .i64 z0 65535 = (m : Int)) (h1 : bits .and .i64 z1 65535 = (u : Int)) (h2 : bits .and .i64 z2 65535 = (v : Int)) (hm : m < 65536) (hu : u < 65536) (hv : v < 65536)
    (hp0 : (p0.toNat : Int) = (u : Int) / 256) (hp1 : (p1.toNat : Int) = bits .and .i64 (u : Int) 255 % 256) (hr0 : (r0.toNat : Int) = (v : Int) / 256) (hr1 : (r1.toNat : Int) = bits .and .i64 (v : Int) 255 % 256)
    (hN3 : Hid (ns.length = n)) (hn1 : 0 < n) (hn3 : n ≤ 3) (hF3 : Hid (F.length = 3))
    (JO : Hid (∀ U E V v W, U = [p0, p1] → E = [q0, q1, q2, q3] → V = [r0, r1] → Below w.heap.size w W → ReadsO W v (Pol.three U E V) → Calls Try.prog 13 #[lv (Pol.ownM (1 + (m : Int))), v] W fun e w' => ∃ u, e = .returned (.tuple #[.int .i64 1, u, .int .i64 0]) ∧ OwnsO W w' u ns))
    (HF : Hid (∀ U E V, U = [p0, p1] → E = [q0, q1, q2, q3] → V = [r0, r1] → ns.foldl (fun L o => L.map (rp o)) (Pol.three U E V) = F))
    (J2 : Hid (∀ v W, Below w.heap.size w W → ReadsO W v F → Calls Try.prog 13 #[lv (Pol.ownM (1 + (m : Int))), v] W fun e w' => ∃ u, e = .returned (.tuple #[.int .i64 0, u, .int .i64 0]) ∧ ReadsO w' u F ∧ Below W.heap.size W w'))
    (hq0 : (q0.toNat : Int) = 0) (hq1 : (q1.toNat : Int) = (1 + (m : Int)) / 65536) (hq2 : (q2.toNat : Int) = bits .and .i64 ((1 + (m : Int)) / 256) 255 % 256) (hq3 : (q3.toNat : Int) = bits .and .i64 (1 + (m : Int)) 255 % 256) :
    Calls Try.prog 7 #[.int .i64 z0, .int .i64 z1, .int .i64 z2] w fun e w' => e = .returned (.bool true) ∧ Below w.heap.size w w' := by
  have CU := fun W B => conv_two W B p0 p1 _ _ hp0 hp1
  have CV := fun W B => conv_two W B r0 r1 _ _ hr0 hr1
  have CE := fun W B => conv_four' W B q0 q1 q2 q3 _ _ _ _ hq0 hq1 hq2 hq3
  obtain ⟨U, hU⟩ : ∃ U, U = [p0, p1] := ⟨_, rfl⟩
  obtain ⟨V, hV⟩ : ∃ V, V = [r0, r1] := ⟨_, rfl⟩
  obtain ⟨E, hE⟩ : ∃ E, E = [q0, q1, q2, q3] := ⟨_, rfl⟩
  have JO1 := Lib.hid fun v W => JO.out U E V v W hU hE hV
  have HF1 := Lib.hid (HF.out U E V hU hE hV)
  rw [← hU] at CU
  rw [← hV] at CV
  rw [← hE] at CE
  clear hp0 hp1 hr0 hr1 hq0 hq1 hq2 hq3 hU hV hE JO HF
  go_enter Try.func7, Try.ntmps7
  go_upto_region 6 with (first | (go_at_call 9; (refine (awake_any _ PO).mono ?_); rintro e w2 ⟨rfl, hb2⟩; have B2 := Lib.hid hb2; clear hb2))
  obtain ⟨w5, hw5⟩ : ∃ w5, w5 = ((((w2.alloc (.cells #[.int .i64 0, .int .i64 (1 + (m : Int)), .int .i64 0, .bool false, .string ⟨#[]⟩, .int .i64 0] 23)).alloc (.cells #[.int .u8 ((u : Int) / 256), .int .u8 (bits .and .i64 (u : Int) 255 % 256)] 5)).alloc (.cells #[.int .u8 0, .int .u8 ((1 + (m : Int)) / 65536), .int .u8 (bits .and .i64 ((1 + (m : Int)) / 256) 255 % 256), .int .u8 (bits .and .i64 (1 + (m : Int)) 255 % 256)] 5)).alloc (.cells #[.int .u8 ((v : Int) / 256), .int .u8 (bits .and .i64 (v : Int) 255 % 256)] 5)).alloc (.cells #[.int .i64 1, .string ⟨U.toArray⟩, .int .i64 5, .string ⟨E.toArray⟩, .int .i64 17, .string ⟨V.toArray⟩] 36) := ⟨_, rfl⟩
  rw [← hw5]
  have HB5 : Hid (Below w2.heap.size w2 w5) := Lib.hid (hw5 ▸ (((((Below.refl w2.heap.size w2).alloc (Nat.le_refl _) _).alloc (by simp) _).alloc (by simp; omega) _).alloc (by simp; omega) _).alloc (by simp; omega) _)
  have N5 : Hid (Lnk w2.heap.size w5 (Pol.ownM (1 + (m : Int)))) := Lib.hid (hw5 ▸ ((((Lnk.new w2 (Pol.ownM (1 + (m : Int)))).below ((Below.refl _ _).alloc (Nat.le_refl _) _)).below ((Below.refl _ _).alloc (Nat.le_refl _) _)).below ((Below.refl _ _).alloc (Nat.le_refl _) _)).below ((Below.refl _ _).alloc (Nat.le_refl _) _))
  have A5 : Hid (Arr (w2.heap.size + 1 + 1 + 1 + 1) w5 (cellsO (Pol.three U E V))) := Lib.hid (hw5 ▸ (Arr.new _ (cellsO (Pol.three U E V)) 36).at (by simp))
  obtain ⟨X, hX⟩ : ∃ X, X = w2.heap.size + 1 + 1 + 1 + 1 := ⟨_, rfl⟩
  rw [← hX] at A5 ⊢
  have HX : Hid (w2.heap.size < X) := Lib.hid (by omega)
  have HB0 := Lib.hid (bel2 B2.out HB5.out)
  have R5 := Lib.hid (reads_arr A5.out rfl)
  have J1 := Lib.hid (JO1.out (.slice (some ⟨X, 0, none⟩) 3 3) w5 HB0.out R5.out)
  clear hw5 hX CU CV CE JO1
  go_wp2_with (first | (refine step_link rfl _ rfl w2.heap.size (Pol.ownM (1 + (m : Int))) rfl (by with_reducible exact N5.out) ?_) |
    (go_at_call 13; (with_reducible refine J1.out.mono ?_); rintro e w6 ⟨u6, rfl, o6⟩; obtain ⟨g6, cap6, hu6, hg6⟩ := own_form o6 (by rw [hN3.out]; exact hn1); rw [hN3.out] at hu6; subst hu6; have HK6 : Hid (Nk w w2.heap.size X g6 w6 (1 + (m : Int)) (Pol.three U E V) ns) := Lib.hid ⟨bel2 HB0.out o6.2, N5.out.below o6.2, A5.out.below o6.2, fun j v hj => by { have h := o6.1.cells (g := g6) rfl j v hj; rwa [add_lit, Nat.zero_add] at h }, Nat.le_trans B2.out.size (Nat.le_of_lt HX.out), Nat.ne_of_lt HX.out, by { have h := A5.out.lt; omega }⟩; clear o6 hg6) |
    (go_at_call 11; (refine (num_any _ _).mono ?_); rintro e wn ⟨rfl, rfl⟩))
  clear HB5 N5 A5 HB0 R5 J1 B2
  obtain ⟨N, hNN⟩ : ∃ N, N = w2.heap.size := ⟨_, rfl⟩
  rw [← hNN] at HK6 HX ⊢
  clear hNN
  obtain ⟨M, hM⟩ : ∃ M : Int, M = 1 + (m : Int) := ⟨_, rfl⟩
  rw [← hM] at HK6 J2
  clear hM h0 h1 h2
  obtain ⟨O, hO⟩ : ∃ O, O = Pol.three U E V := ⟨_, rfl⟩
  have hO3 : O.length = 3 := by rw [hO]; rfl
  rw [← hO] at HK6 HF1
  clear hO
  go_loopw [14] (fun i wr => ∃ (i0 : Nat) (L : List Pol.Op), i0 ≤ n ∧ i = .int .i64 (i0 : Int) ∧ L.length = 3 ∧ L = (ns.take i0).foldl (fun L o => L.map (rp o)) O ∧ Nk w N X g6 wr M L ns) (fun i _ => n - (intOf i).toNat)
  case atStart => exact ⟨0, O, by omega, rfl, hO3, rfl, HK6.out⟩
  case round =>
    clear HK6 hO3
    obtain ⟨i0, L, hi0, rfl, hL3, hL, hk0⟩ := hrel
    have HK := Lib.hid hk0
    have HL3 := Lib.hid hL3
    have HL := Lib.hid hL
    clear hk0 hL3 hL
    by_cases hlt : i0 < n
    · have q0 : decide ((i0 : Int) < (n : Int)) = true := decide_eq_true (by omega)
      have hil : i0 < ns.length := by rw [hN3.out]; exact hlt
      obtain ⟨o, ho⟩ : ∃ o, o = ns[i0] := ⟨_, rfl⟩
      have HO := Lib.hid ho
      have HI := Lib.hid hil
      clear ho
      go_wp2_with fail
      go_loopw [15] (fun i wq => ∃ k : Nat, k ≤ 3 ∧ i = .int .i64 (k : Int) ∧ Nk w N X g6 wq M (upd o k L) ns) (fun i _ => 3 - (intOf i).toNat)
      case atStart => exact ⟨0, by omega, rfl, by rw [upd_zero]; exact HK.out⟩
      case round =>
        clear HK
        obtain ⟨k, hk3, rfl, hk1⟩ := hrel
        have HK := Lib.hid hk1
        clear hk1
        by_cases hlk : k < 3
        · have q1 : decide ((k : Int) < 3) = true := decide_eq_true (by omega)
          have hkl : k < L.length := by rw [HL3.out]; exact hlk
          have hku : k < (upd o k L).length := by rw [upd_length]; exact hkl
          have hat := upd_at o k L hkl
          have HS := Lib.hid (upd_succ o k L hkl)
          have i1 := opt_index X 0 3 3 k hlk
          have i2 := opt_index g6 0 n cap6 i0 hlt
          simp only [Nat.zero_add] at i1 i2
          obtain ⟨P, hP⟩ : ∃ P, P = upd o k L := ⟨_, rfl⟩
          have hPk : k < P.length := by rw [hP]; exact hku
          have hPat : P[k] = L[k] := by simp only [hP]; exact hat
          rw [← hP] at HK HS
          clear hP hat hku
          have hcell : ∀ W : World, Nk w N X g6 W M P ns → W.cell? ⟨X, 2 * k, none⟩ = some (.int .i64 (L[k]).1) ∧ W.cell? ⟨X, 2 * k + 1, none⟩ = some (.string ⟨(L[k]).2.toArray⟩) ∧ W.frozen? ⟨X, 2 * k, none⟩ = false ∧ W.frozen? ⟨X, 2 * k + 1, none⟩ = false ∧ W.cell? ⟨g6, 2 * i0, none⟩ = some (.int .i64 o.1) ∧ W.cell? ⟨g6, 2 * i0 + 1, none⟩ = some (.string ⟨o.2.toArray⟩) := fun W h => by
            have a0 := h.opts.cell _ _ (cellsO_at P k hPk).1
            have a1 := h.opts.cell _ _ (cellsO_at P k hPk).2
            have b0 := h.rs _ _ (cellsO_at ns i0 hil).1
            have b1 := h.rs _ _ (cellsO_at ns i0 hil).2
            rw [hPat] at a0 a1
            have ho := HO.out
            exact ⟨a0, a1, h.opts.frozen (2 * k), h.opts.frozen (2 * k + 1), by rw [ho]; exact b0, by rw [ho]; exact b1⟩
          have hset : ∀ x, P[k] = x → P.set k x = P := fun x hx => by rw [← hx]; simp
          rw [hPat] at hset
          have HSET := Lib.hid hset
          have HC := Lib.hid hcell
          have HPK := Lib.hid hPk
          clear hPat hset hcell hPk
          generalize L[k] = p at *
          clear hkl
          obtain ⟨z, d⟩ := p
          obtain ⟨κ, e⟩ := o
          obtain ⟨c0, -, -, -, r0, -⟩ := HC.out wr HK.out
          try simp only at c0 r0
          go_wp2_with fail
          go_quiet (fail)
          obtain ⟨wz, hwz⟩ : ∃ wz, wz = wr.drewN nq := ⟨_, rfl⟩
          have HKZ := Lib.hid (HK.out.below (hwz ▸ below_drewN (Below.refl _ wr) nq))
          rw [← hwz]
          clear hwz c0 r0 HK
          obtain ⟨c0, c1, f0, f1, r0, r1⟩ := HC.out wz HKZ.out
          try simp only at c0 c1 r0 r1
          have PUT := Lib.hid (HKZ.out.put k HPK.out (κ, e))
          have hc1 : (wz.setCell ⟨X, 2 * k, none⟩ (.int .i64 κ)).cell? ⟨X, 2 * k + 1, none⟩ = some (.string ⟨d.toArray⟩) := by rw [World.cell?_setCell_other _ _ _ _ (by simp)]; exact c1
          have hz1 := block_lt_of_cell c0
          have hz2 := block_lt_of_cell r0
          cases hq : (z == κ)
          · have HE : Hid (rp (κ, e) (z, d) = (z, d)) := Lib.hid (by unfold rp; simp only [hq]; rfl)
            go_wp2_with fail
            go_roundw
            case rel => exact ⟨k + 1, by omega, by go_num, by rw [HS.out, HE.out, HSET.out _ rfl]; exact HKZ.out⟩
            case measure => simp [intOf]; omega
          · have HE : Hid (rp (κ, e) (z, d) = (κ, e)) := Lib.hid (by unfold rp; simp only [hq]; rfl)
            go_wp2_with fail
            go_roundw
            case rel => exact ⟨k + 1, by omega, by go_num, by rw [HS.out, HE.out]; exact PUT.out⟩
            case measure => simp [intOf]; omega
        · obtain rfl : k = 3 := by omega
          have hup : upd o 3 L = L.map (rp o) := by rw [← HL3.out]; exact upd_all o L
          have HF2 : Hid (L.map (rp o) = (ns.take (i0 + 1)).foldl (fun L o => L.map (rp o)) O) := Lib.hid (by rw [List.take_succ_eq_append_getElem hil, List.foldl_append, ← HL.out, HO.out]; rfl)
          rw [hup] at HK
          have q1 : decide ((3 : Int) < 3) = false := by decide
          clear hup
          go_wp2_with fail
          go_roundw
          case rel => exact ⟨i0 + 1, L.map (rp o), by omega, by go_num, by rw [List.length_map]; exact HL3.out, HF2.out, HK.out⟩
          case measure => simp [intOf]; omega
    · obtain rfl : i0 = n := by omega
      have hLF : L = F := by rw [HL.out, ← hN3.out, List.take_length]; exact HF1.out
      subst hLF
      have RF := Lib.hid (reads_arr HK.out.opts HL3.out)
      have q0 : decide ((i0 : Int) < (i0 : Int)) = false := decide_eq_false (by omega)
      have J3 := Lib.hid (J2.out _ _ HK.out.base RF.out)
      clear HL J2 hF3 HF1
      go_wp2_with (first | (refine step_link rfl _ rfl N (Pol.ownM M) rfl (by with_reducible exact HK.out.link) ?_) |
        (go_at_call 13; (with_reducible refine J3.out.mono ?_); rintro e w8 ⟨u8, rfl, r8, hb8⟩; have Q8 := Lib.hid r8; have R8 := Lib.hid (RF.out.below hb8); have B8 := Lib.hid (bel2 HK.out.base hb8); have SM := Lib.hid (sameO_any _ _ _ _ _ Q8.out R8.out (by have := HL3.out; omega) (by have := HL3.out; omega)); rw [decide_eq_true rfl] at SM; clear r8 hb8) |
        (go_at_call 15; (with_reducible refine SM.out.mono ?_); rintro e w9 ⟨rfl, hb9⟩; have B9 := Lib.hid (bel2 B8.out hb9); clear hb9) |
        (go_at_call 11; (refine (num_any _ _).mono ?_); rintro e wn ⟨rfl, rfl⟩))
      go_ret
      exact ⟨rfl, B9.out⟩
theorem low_65535 (n : Int) : ∃ x : Nat, bits BinOp.and IntKind.i64 n 65535 = (x : Int) ∧ x < 65536 := low_nat n 16 (by omega)
theorem and_255 (n : Int) : bits BinOp.and IntKind.i64 n 255 = n % 256 := low_bits_of n 8 (by omega)
theorem byte_low (n : Nat) : ((UInt8.ofNat n).toNat : Int) = bits .and .i64 (n : Int) 255 % 256 := by
  rw [and_255]
  simp
theorem byte_top (n : Nat) (h : n < 65536) : ((UInt8.ofNat (n / 256)).toNat : Int) = (n : Int) / 256 := by
  simp only [UInt8.toNat_ofNat']
  omega
theorem be_two (n : Nat) : Pol.be 2 n = [UInt8.ofNat (n / 256), UInt8.ofNat n] := by simp [Pol.be]
theorem be_four (n : Nat) (h : n < 16777216) : Pol.be 4 n = [0, UInt8.ofNat (n / 65536), UInt8.ofNat (n / 256), UInt8.ofNat n] := by
  have e : n / 16777216 = 0 := by omega
  simp [Pol.be, e]
theorem fold_three (U E V : List UInt8) (a c : Option (List UInt8)) (e : List UInt8) :
    ((a.map fun x => ((1 : Int), x)).toList ++ [((5 : Int), e)] ++ (c.map fun x => ((17 : Int), x)).toList).foldl (fun L o => L.map (rp o)) (Pol.three U E V) = Pol.three (a.getD U) e (c.getD V) := by
  cases a <;> cases c <;> simp [Pol.three, rp]
theorem n_1500 : nm (Pol.be 2 1500) = 1500 := nm_be 2 1500 (by omega) (by omega)
theorem turn_facts (M : Int) (h0 : 0 ≤ M) (h1 : M ≤ 4294967295) (h2 : 0 < M) : Pol.turn M ≠ 0 ∧ Pol.turn M ≠ M ∧ (Pol.turn M).toNat < 256 ^ 4 ∧ ((Pol.turn M).toNat : Int) = Pol.turn M := by
  unfold Pol.turn
  split
  · refine ⟨by omega, by omega, by omega, by omega⟩
  · refine ⟨by omega, by omega, by omega, by omega⟩
theorem walk_naks (z0 z1 z2 : Int) (w : World) (PO : PolOk w)
    (JO : ∀ own v os W, ReadsO W v os → os.length ≤ 1000000 → Calls Try.prog 13 #[lv own, v] W fun e w' => ∃ u, e = .returned (.tuple #[.int .i64 (Pol.judge nm own os).1, u, .int .i64 (Pol.judge nm own os).2.2]) ∧ OwnsO W w' u (Pol.judge nm own os).2.1) :
    Calls Try.prog 7 #[.int .i64 z0, .int .i64 z1, .int .i64 z2] w fun e w' => e = .returned (.bool true) ∧ Below w.heap.size w w' := by
  obtain ⟨m, h0, hm⟩ := low_65535 z0
  obtain ⟨u, h1, hu⟩ := low_65535 z1
  obtain ⟨v, h2, hv⟩ := low_65535 z2
  obtain ⟨M, hM⟩ : ∃ M : Int, M = 1 + (m : Int) := ⟨_, rfl⟩
  have hMn : M = ((1 + m : Nat) : Int) := by omega
  have hM0 : 0 ≤ M := by omega
  have hM1 : M ≤ 4294967295 := by omega
  obtain ⟨t1, t2, t3, t4⟩ := turn_facts M hM0 hM1 (by omega)
  have hm4 : 1 + m < 256 ^ 4 := by omega
  have hu4 : u < 256 ^ 2 := by omega
  have hv4 : v < 256 ^ 2 := by omega
  have hb4 := be_four (1 + m) (by omega)
  have b4 : ((UInt8.ofNat ((1 + m) / 65536)).toNat : Int) = (1 + (m : Int)) / 65536 := by
    simp only [UInt8.toNat_ofNat']
    omega
  have b5 : ((UInt8.ofNat ((1 + m) / 256)).toNat : Int) = bits .and .i64 ((1 + (m : Int)) / 256) 255 % 256 := by
    rw [byte_low, show (((1 + m) / 256 : Nat) : Int) = (1 + (m : Int)) / 256 by omega]
  have b6 : ((UInt8.ofNat (1 + m)).toNat : Int) = bits .and .i64 (1 + (m : Int)) 255 % 256 := by
    rw [byte_low, show ((1 + m : Nat) : Int) = 1 + (m : Int) by omega]
  have n1500 : nm (Pol.be 2 1500) = 1500 := n_1500
  have nU : nm (Pol.be 2 u) = (u : Int) := nm_be 2 u (by decide) hu4
  have nV : nm (Pol.be 2 v) = (v : Int) := nm_be 2 v (by decide) hv4
  have nE : nm (Pol.be 4 (1 + m)) = M := by rw [nm_be 4 (1 + m) (by decide) hm4, hMn]
  have nT : nm (Pol.be 4 (Pol.turn M).toNat) = Pol.turn M := by rw [nm_be 4 _ (by decide) t3]; exact t4
  obtain ⟨a, ha⟩ : ∃ a : Option (List UInt8), a = if Pol.unit (u : Int) = true then none else some (Pol.be 2 1500) := ⟨_, rfl⟩
  obtain ⟨c, hc⟩ : ∃ c : Option (List UInt8), c = if Pol.unit (v : Int) = true then none else some (Pol.be 2 1500) := ⟨_, rfl⟩
  have uA : Pol.unit (nm (a.getD (Pol.be 2 u))) = true ∧ (a.getD (Pol.be 2 u)).length = 2 := by
    rw [ha]
    by_cases h : Pol.unit (u : Int) = true
    · rw [if_pos h]; exact ⟨by rw [Option.getD_none, nU]; exact h, Pol.be_length _ _⟩
    · rw [if_neg h]; exact ⟨by rw [Option.getD_some, n1500]; rfl, Pol.be_length _ _⟩
  have uC : Pol.unit (nm (c.getD (Pol.be 2 v))) = true ∧ (c.getD (Pol.be 2 v)).length = 2 := by
    rw [hc]
    by_cases h : Pol.unit (v : Int) = true
    · rw [if_pos h]; exact ⟨by rw [Option.getD_none, nV]; exact h, Pol.be_length _ _⟩
    · rw [if_neg h]; exact ⟨by rw [Option.getD_some, n1500]; rfl, Pol.be_length _ _⟩
  have j1 := Pol.three_judge M hM0 hM1 (Pol.be 2 u) (Pol.be 4 (1 + m)) (Pol.be 2 v) (Pol.be_length _ _) (Pol.be_length _ _) (Pol.be_length _ _) _ rfl
  have e1 : (if Pol.unit (nm (Pol.be 2 u)) = true then none else some ((1 : Int), Pol.be 2 1500)).toList = (a.map fun x => ((1 : Int), x)).toList := by
    rw [ha, nU]; split <;> rfl
  have e2 : (if nm (Pol.be 4 (1 + m)) = 0 ∨ nm (Pol.be 4 (1 + m)) = M then some ((5 : Int), Pol.be 4 (Pol.turn M).toNat) else none).toList = [((5 : Int), Pol.be 4 (Pol.turn M).toNat)] := by
    rw [if_pos (.inr nE)]; rfl
  have e3 : (if Pol.unit (nm (Pol.be 2 v)) = true then none else some ((17 : Int), Pol.be 2 1500)).toList = (c.map fun x => ((17 : Int), x)).toList := by
    rw [hc, nV]; split <;> rfl
  rw [e1, e2, e3, if_pos (by simp)] at j1
  have j2 := Pol.three_judge M hM0 hM1 (a.getD (Pol.be 2 u)) (Pol.be 4 (Pol.turn M).toNat) (c.getD (Pol.be 2 v)) uA.2 (Pol.be_length _ _) uC.2 [] (by
    rw [if_pos uA.1, if_pos uC.1, if_neg (by rw [nT]; exact fun h => h.elim t1 t2)]; rfl)
  rw [if_neg (by simp)] at j2
  have hb2 := be_two u
  have hb3 := be_two v
  refine naks_good m u v z0 z1 z2 (UInt8.ofNat (u / 256)) (UInt8.ofNat u) 0 (UInt8.ofNat ((1 + m) / 65536)) (UInt8.ofNat ((1 + m) / 256)) (UInt8.ofNat (1 + m)) (UInt8.ofNat (v / 256)) (UInt8.ofNat v)
    ((a.map fun x => ((1 : Int), x)).toList ++ [((5 : Int), Pol.be 4 (Pol.turn M).toNat)] ++ (c.map fun x => ((17 : Int), x)).toList) (Pol.three (a.getD (Pol.be 2 u)) (Pol.be 4 (Pol.turn M).toNat) (c.getD (Pol.be 2 v))) _ w (Lib.hid PO) h0 h1 h2 hm hu hv
    (byte_top u hu) (byte_low u) (byte_top v hv) (byte_low v) (Lib.hid rfl) (by simp; omega) (by cases a <;> cases c <;> simp) (Lib.hid rfl) (Lib.hid ?_) (Lib.hid ?_) (Lib.hid ?_) rfl b4 b5 b6
  · rintro U E V x W rfl rfl rfl _ hr
    rw [← hb2, ← hb3, ← hb4] at hr
    have h := JO (Pol.ownM M) x _ W hr (by simp [Pol.three])
    rw [j1] at h
    rw [← hM]
    exact h
  · rintro U E V rfl rfl rfl
    rw [← hb2, ← hb3, ← hb4]
    exact fold_three _ _ _ a c _
  · intro x W k hr
    have h := PO.judge (Pol.ownM M) x _ W k hr (by simp [Pol.three])
    rw [j2] at h
    rw [← hM]
    exact h
end Go.Proofs.Ytiadndcodjpijaa.Pl
