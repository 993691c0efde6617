/-
  The walk of the law of one option alone, whole.
-/
import Derived.Test.YtiadndcodjpijaaPoE
namespace Go.Proofs.Ytiadndcodjpijaa.Pol
theorem judge_one (own : Lk) (o : Op) (hm : may own = true) (hf : fit o = true) : judge Pl.nm own [o] =
    if right o = false ∨ (o.1 = 18 ∧ own.short = false) then ((2 : Int), [o], (0 : Int)) else match better Pl.nm own o with | some p => ((1 : Int), [p], (0 : Int)) | none => ((0 : Int), [o], (0 : Int)) := by
  have hg : g [o] 0 = o := rfl
  have hb : bad own [o] 0 = (!right o || (o.1 == 18 && !own.short)) := by
    unfold bad twice
    rw [hg]
    simp
  have hfs : fits [o] = true := by simp [fits, hf]
  unfold judge
  rw [hm, hfs, Bool.and_self, if_pos rfl]
  simp only [List.length_singleton, rejs, naks, hb, hg, List.nil_append]
  by_cases h : right o = false ∨ (o.1 = 18 ∧ own.short = false)
  · have e : (!right o || (o.1 == 18 && !own.short)) = true := by
      rcases h with h | ⟨h1, h2⟩
      · rw [h]; rfl
      · rw [h1, h2]; simp
    rw [if_pos h, e]
    simp
  · have e : (!right o || (o.1 == 18 && !own.short)) = false := by
      simp only [not_or, not_and] at h
      obtain ⟨h1, h2⟩ := h
      have : right o = true := by simpa using h1
      rw [this]
      simpa using h2
    rw [if_neg h, e]
    cases better Pl.nm own o <;> simp
def own9 (s : Bool) : Lk := ⟨0, 9, 0, s, [], 0⟩
theorem own9_may (s : Bool) : may (own9 s) = true := by cases s <;> decide
theorem fit_short (k : Nat) (hk : k < 30) (d : List UInt8) (hd : d.length ≤ 40) : fit ((k : Int), d) = true := by
  unfold fit
  simp
  omega
end Go.Proofs.Ytiadndcodjpijaa.Pol
namespace Go.Proofs.Ytiadndcodjpijaa.Pl
open Go.RowKit
theorem empty_no (d : List UInt8) (h : d ≠ []) : (ByteArray.mk d.toArray).toList.isEmpty = false := by
  rw [ByteArray.toList_eq]
  simpa using h
theorem four_zero (a b c e : UInt8) (x : Nat) (hx : x < 256) (h : a.toNat * 16777216 + b.toNat * 65536 + c.toNat * 256 + e.toNat = x) : a.toNat = 0 ∧ b.toNat = 0 ∧ c.toNat = 0 ∧ e.toNat = x := by omega
theorem kinds_five (d : List UInt8) (h : d.length = 4) (s : Bool)
    (J : Pol.judge nm (Pol.own9 s) [(((5 : Nat) : Int), d)] = if Pol.right (((5 : Nat) : Int), d) = false ∨ ((((5 : Nat) : Int), d).1 = 18 ∧ (Pol.own9 s).short = false) then ((2 : Int), [(((5 : Nat) : Int), d)], (0 : Int)) else match Pol.better nm (Pol.own9 s) (((5 : Nat) : Int), d) with | some p => ((1 : Int), [p], (0 : Int)) | none => ((0 : Int), [(((5 : Nat) : Int), d)], (0 : Int))) :
    ∃ vd d', Pol.judge nm (Pol.own9 s) [(((5 : Nat) : Int), d)] = (vd, [(((5 : Nat) : Int), d')], 0) ∧ Way 5 ⟨d.toArray⟩ ⟨d'.toArray⟩ d.length s vd := by
  match d, h with
  | [a, b, c, e], _ =>
      have hv : nm [a, b, c, e] = (a.toNat : Int) * 16777216 + (b.toNat : Int) * 65536 + (c.toNat : Int) * 256 + e.toNat := by
        rw [nm_val _ (by simp), Pol.val_cons, Pol.val_cons, Pol.val_cons, Pol.val_cons]
        simp [Pol.val]
        omega
      have hz : ∀ x : UInt8, x.toNat = 0 → x = 0 := fun x hx => UInt8.toNat_inj.1 (by simpa using hx)
      have h9 : ∀ x : UInt8, x.toNat = 9 → x = 9 := fun x hx => UInt8.toNat_inj.1 (by simpa using hx)
      by_cases hn : nm [a, b, c, e] = 0 ∨ nm [a, b, c, e] = 9
      · refine ⟨1, Pol.be 4 (Pol.turn 9).toNat, ?_, .inr (.inl ⟨rfl, ?_, rfl⟩)⟩
        · rw [J]
          rw [if_neg (by simp [Pol.right])]
          have hb : Pol.better nm (Pol.own9 s) (((5 : Nat) : Int), [a, b, c, e]) = some (((5 : Nat) : Int), Pol.be 4 (Pol.turn 9).toNat) := by
            unfold Pol.better
            rw [if_neg (by simp), if_pos ⟨rfl, hn⟩]
            rfl
          rw [hb]
        · rw [hv] at hn
          rw [hz a (by omega), hz b (by omega), hz c (by omega)]
          rcases hn with hn | hn
          · left; rw [hz e (by omega)]
          · right; rw [h9 e (by omega)]
      · refine ⟨0, [a, b, c, e], ?_, .inl ⟨rfl, .inr (.inr (.inr (.inr (.inr (.inr (.inr (.inr (.inr (.inr (.inr (.inl ⟨rfl, rfl, ?_, ?_, rfl⟩)))))))))))⟩⟩
        · rw [J]
          rw [if_neg (by simp [Pol.right])]
          have hb : Pol.better nm (Pol.own9 s) (((5 : Nat) : Int), [a, b, c, e]) = none := by
            unfold Pol.better
            rw [if_neg (by simp), if_neg (fun h => hn h.2)]
          rw [hb]
        · rw [ByteArray.toList_eq, beq_eq_false_iff_ne]
          intro he
          simp at he
          obtain ⟨rfl, rfl, rfl, rfl⟩ := he
          exact hn (.inl (by rw [hv]; rfl))
        · rw [ByteArray.toList_eq, beq_eq_false_iff_ne]
          intro he
          simp at he
          obtain ⟨rfl, rfl, rfl, rfl⟩ := he
          exact hn (.inr (by rw [hv]; rfl))
theorem kinds_two (k : Nat) (k117 : k = 1 ∨ k = 17) (d : List UInt8) (h : d.length = 2) (s : Bool)
    (J : Pol.judge nm (Pol.own9 s) [(((k : Nat) : Int), d)] = if Pol.right (((k : Nat) : Int), d) = false ∨ ((((k : Nat) : Int), d).1 = 18 ∧ (Pol.own9 s).short = false) then ((2 : Int), [(((k : Nat) : Int), d)], (0 : Int)) else match Pol.better nm (Pol.own9 s) (((k : Nat) : Int), d) with | some p => ((1 : Int), [p], (0 : Int)) | none => ((0 : Int), [(((k : Nat) : Int), d)], (0 : Int))) :
    ∃ vd d', Pol.judge nm (Pol.own9 s) [((k : Int), d)] = (vd, [((k : Int), d')], 0) ∧ Way k ⟨d.toArray⟩ ⟨d'.toArray⟩ d.length s vd := by
  match d, h with
  | [y0, y1], _ =>
      have hv : nm [y0, y1] = (y0.toNat : Int) * 256 + y1.toNat := by
        rw [nm_val _ (by simp), Pol.val_cons, Pol.val_cons]
        simp [Pol.val]
      by_cases hu : Pol.unit (nm [y0, y1]) = true
      · have hb : 128 ≤ nm [y0, y1] ∧ nm [y0, y1] ≤ 1500 := by unfold Pol.unit at hu; simpa using hu
        refine ⟨0, [y0, y1], ?_, .inr (.inr ⟨k117, y0, y1, rfl, .inr (.inr ⟨by omega, by omega, rfl, rfl⟩)⟩)⟩
        rw [J]
        have hr : Pol.right ((k : Int), [y0, y1]) = true := by rcases k117 with rfl | rfl <;> simp [Pol.right]
        have h18 : (k : Int) ≠ 18 := by omega
        have h5 : (k : Int) ≠ 5 := by omega
        rw [if_neg (by rw [hr]; simp [h18])]
        have hb : Pol.better nm (Pol.own9 s) ((k : Int), [y0, y1]) = none := by
          unfold Pol.better
          rw [if_neg (by rw [hu]; simp), if_neg (fun h => h5 h.1)]
        rw [hb]
      · have hu2 : Pol.unit (nm [y0, y1]) = false := by simpa using hu
        have hb : nm [y0, y1] < 128 ∨ 1500 < nm [y0, y1] := by
          unfold Pol.unit at hu
          simp at hu
          omega
        refine ⟨1, Pol.be 2 1500, ?_, .inr (.inr ⟨k117, y0, y1, rfl, ?_⟩)⟩
        · rw [J]
          have hr : Pol.right ((k : Int), [y0, y1]) = true := by rcases k117 with rfl | rfl <;> simp [Pol.right]
          have h18 : (k : Int) ≠ 18 := by omega
          rw [if_neg (by rw [hr]; simp [h18])]
          have hb : Pol.better nm (Pol.own9 s) ((k : Int), [y0, y1]) = some ((k : Int), Pol.be 2 1500) := by
            unfold Pol.better
            rw [if_pos ⟨by omega, hu2⟩]
          rw [hb]
        · rcases hb with hb | hb
          · exact .inl ⟨by omega, rfl⟩
          · exact .inr (.inl ⟨by omega, rfl⟩)
theorem kinds_eighteen (d : List UInt8) (s : Bool)
    (J : Pol.judge nm (Pol.own9 s) [((((18 : Nat) : Int) : Int), d)] = if Pol.right ((((18 : Nat) : Int) : Int), d) = false ∨ (((((18 : Nat) : Int) : Int), d).1 = 18 ∧ (Pol.own9 s).short = false) then ((2 : Int), [((((18 : Nat) : Int) : Int), d)], (0 : Int)) else match Pol.better nm (Pol.own9 s) ((((18 : Nat) : Int) : Int), d) with | some p => ((1 : Int), [p], (0 : Int)) | none => ((0 : Int), [((((18 : Nat) : Int) : Int), d)], (0 : Int))) :
    ∃ vd d', Pol.judge nm (Pol.own9 s) [(((18 : Nat) : Int), d)] = (vd, [(((18 : Nat) : Int), d')], 0) ∧ Way 18 ⟨d.toArray⟩ ⟨d'.toArray⟩ d.length s vd := by
  by_cases h0 : d = []
  · subst h0
    cases s
    · exact ⟨2, [], by rw [J]; simp [Pol.right, Pol.own9], .inl ⟨rfl, .inr (.inr (.inr (.inr (.inr (.inr (.inl ⟨rfl, rfl, rfl, rfl⟩))))))⟩⟩
    · exact ⟨0, [], by rw [J]; simp [Pol.right, Pol.own9, Pol.better], .inl ⟨rfl, .inr (.inr (.inr (.inr (.inr (.inl ⟨rfl, rfl, rfl, rfl⟩)))))⟩⟩
  · exact ⟨2, d, by rw [J]; simp [Pol.right, h0], .inl ⟨rfl, .inr (.inr (.inr (.inr (.inr (.inr (.inr (.inl ⟨rfl, empty_no d h0, rfl⟩)))))))⟩⟩
theorem kinds_judge (k : Nat) (hk : k < 30) (d : List UInt8) (hd : d.length ≤ 40) (s : Bool) : ∃ vd d', Pol.judge nm (Pol.own9 s) [((k : Int), d)] = (vd, [((k : Int), d')], 0) ∧ Way k ⟨d.toArray⟩ ⟨d'.toArray⟩ d.length s vd := by
  have J := Pol.judge_one (Pol.own9 s) ((k : Int), d) (Pol.own9_may s) (Pol.fit_short k hk d hd)
  by_cases k23 : k = 23
  · subst k23
    by_cases h : d.length = 2
    · exact ⟨0, d, by rw [J]; simp [Pol.right, h, Pol.better], .inl ⟨rfl, .inl ⟨rfl, h, rfl⟩⟩⟩
    · exact ⟨2, d, by rw [J]; simp [Pol.right, h], .inl ⟨rfl, .inr (.inl ⟨rfl, by omega, rfl⟩)⟩⟩
  · by_cases k19 : k = 19
    · subst k19
      by_cases h0 : d.length = 0
      · exact ⟨2, d, by rw [J]; simp [Pol.right, h0], .inl ⟨rfl, .inr (.inr (.inl ⟨rfl, h0, rfl⟩))⟩⟩
      · by_cases h1 : d.length ≤ 20
        · have hp : 1 ≤ d.length := by omega
          exact ⟨0, d, by rw [J]; simp [Pol.right, h1, Pol.better, hp], .inl ⟨rfl, .inr (.inr (.inr (.inl ⟨rfl, by omega, h1, rfl⟩)))⟩⟩
        · exact ⟨2, d, by rw [J]; simp [Pol.right, h1], .inl ⟨rfl, .inr (.inr (.inr (.inr (.inl ⟨rfl, by omega, rfl⟩))))⟩⟩
    · by_cases k18 : k = 18
      · subst k18
        exact kinds_eighteen d s J
      · by_cases k117 : k = 1 ∨ k = 17
        · by_cases h : d.length = 2
          · exact kinds_two k k117 d h s J
          · refine ⟨2, d, ?_, .inl ⟨rfl, ?_⟩⟩
            · rw [J]
              rcases k117 with rfl | rfl <;> simp [Pol.right, h]
            · rcases k117 with rfl | rfl
              · exact .inr (.inr (.inr (.inr (.inr (.inr (.inr (.inr (.inl ⟨rfl, by omega, rfl⟩))))))))
              · exact .inr (.inr (.inr (.inr (.inr (.inr (.inr (.inr (.inr (.inl ⟨rfl, by omega, rfl⟩)))))))))
        · by_cases k5 : k = 5
          · subst k5
            by_cases h : d.length = 4
            · exact kinds_five d h s J
            · exact ⟨2, d, by rw [J]; simp [Pol.right, h], .inl ⟨rfl, .inr (.inr (.inr (.inr (.inr (.inr (.inr (.inr (.inr (.inr (.inl ⟨rfl, by omega, rfl⟩))))))))))⟩⟩
          · refine ⟨2, d, ?_, .inl ⟨rfl, .inr (.inr (.inr (.inr (.inr (.inr (.inr (.inr (.inr (.inr (.inr (.inr ⟨by omega, by omega, by omega, by omega, by omega, by omega, rfl⟩)))))))))))⟩⟩
            rw [J]
            have n1 : (k : Int) ≠ 1 := by omega
            have n5 : (k : Int) ≠ 5 := by omega
            have n17 : (k : Int) ≠ 17 := by omega
            have n18 : (k : Int) ≠ 18 := by omega
            have n19 : (k : Int) ≠ 19 := by omega
            have n23 : (k : Int) ≠ 23 := by omega
            simp [Pol.right, n1, n5, n17, n18, n19, n23]
theorem walk_kinds (kind : Int) (data : ByteArray) (s : Bool) (w : World) (PO : PolOk w) : Calls Try.prog 5 #[.int .i64 kind, .string data, .bool s] w fun e w' => e = .returned (.bool true) ∧ Below w.heap.size w w' := by
  obtain ⟨k, hk, hk2⟩ := by_many kind 30 (by decide) (by decide)
  obtain ⟨d, hcut, hd⟩ : ∃ d : List UInt8, ((data.size ≤ 40 ∧ (⟨d.toArray⟩ : ByteArray) = data) ∨ (40 < data.size ∧ data.extract 0 40 = ⟨d.toArray⟩)) ∧ d.length ≤ 40 := by
    by_cases h : data.size ≤ 40
    · exact ⟨data.data.toList, .inl ⟨h, by simp⟩, by simpa using h⟩
    · refine ⟨(data.extract 0 40).data.toList, .inr ⟨by omega, (ByteArray.ext (by rw [Array.toArray_toList]))⟩, ?_⟩
      have : (data.extract 0 40).size = 40 := by rw [ByteArray.size_extract]; omega
      have e : (data.extract 0 40).data.toList.length = (data.extract 0 40).size := by simp
      omega
  obtain ⟨vd, d', hj, way⟩ := kinds_judge k (by omega) d hd s
  refine kinds_walk kind k data ⟨d.toArray⟩ ⟨d'.toArray⟩ d d' s vd w (Lib.hid PO) hk (by omega) (Lib.hid rfl) (Lib.hid rfl) hcut d.length (sz d) hd way (Lib.hid fun v W hb hr => ?_)
  have h := PO.judge (Pol.own9 s) v [((k : Int), d)] W hb hr (by simp)
  rw [hj] at h
  exact h
end Go.Proofs.Ytiadndcodjpijaa.Pl
