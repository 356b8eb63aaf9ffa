/- Joined: W8d, PlainE2. -/
import Derived.Test.YtffkakpbelknaaaGreatDoorF13
/- W8d -/
namespace Go.Proofs.YtffkakpbelknaaaGreatDoor
open Go.ChangeShapes Go.WideShapes Go.ChangeAt Go.RowKit Go.Shelf
set_option linter.unusedVariables false

theorem conv_one8 (w : World) (b : UInt8) (x : Int) (hx : x = (b.toNat : Int)) : (convert 22 9 (.slice (some ⟨w.heap.size, 0, none⟩) 1 1)).run Tryz.prog (w.alloc (.cells #[.int .u8 x] 5)) = .ok (.string ⟨#[b]⟩) (w.alloc (.cells #[.int .u8 x] 5)) := by
  subst hx
  refine run_convert_bytes_back _ 22 9 5 ⟨w.heap.size, 0, none⟩ 1 [b] Tryz.underlying22 Tryz.underlying5 Tryz.underlying9 ?_
  intro j hj
  have : j = 0 := by simpa using hj
  subst this
  simp [go_sem]
theorem ext_list8 (s : ByteArray) (n k : Nat) : (s.extract n (n + k)).data.toList = (s.data.toList.drop n).take k := by
  rw [ByteArray.data_extract, Array.toList_extract]
  simp [List.extract]
theorem pre_at (s : ByteArray) (n : Nat) (E : ByteArray) (hn : n ≤ s.size) : Lib.hasPrefix (s.data.toList.drop n) E.data.toList = true ↔ (n + E.size ≤ s.size ∧ s.extract n (n + E.size) = E) := by
  have hl : s.data.toList.length = s.size := by simp
  have he : E.data.toList.length = E.size := by simp
  rw [← Lib.hasPrefix_of_take, Bool.and_eq_true, decide_eq_true_eq, beq_iff_eq, List.length_drop, hl, he, ← ext_list8]
  constructor
  · rintro ⟨h1, h2⟩
    exact ⟨by omega, ba_eq h2⟩
  · rintro ⟨h1, h2⟩
    exact ⟨by omega, by rw [h2]⟩
theorem str_eq8 {a b : ByteArray} (h : a.toList = b.toList) : a = b := by
  apply ba_eq
  rw [ByteArray.toList_eq, ByteArray.toList_eq] at h
  exact h
theorem head_ne (c : UInt8) (l : List UInt8) (h : c ≠ 38) (j : Nat) : Lib.hasPrefix (c :: l) (eL j) = false := by
  have e : (38 == c) = false := by simpa using fun h' => h h'.symm
  unfold Lib.hasPrefix eL eB
  rcases j with _ | _ | _ | j <;> simp [List.isPrefixOf, e]
theorem drop_cons8 (s : ByteArray) (n : Nat) (h : n < s.size) : s.data.toList.drop n = s[n] :: s.data.toList.drop (n + 1) := by
  have hq : n < s.data.toList.length := by simpa using h
  rw [show s[n] = s.data.toList[n] by simp; rfl]
  exact List.drop_eq_getElem_cons hq

set_option maxRecDepth 100000 in
set_option maxHeartbeats 800000 in
theorem specPlain_any (s : ByteArray) (w : World) :
    Calls Tryz.prog 49 #[.string s] w fun e w' => e = .returned (plV s) ∧ Below w.heap.size w w' := by
  by_cases h : s.size ≤ 1200
  · have HY : Hid (∀ r, plL s.data.toList = some r → plV s = .tuple #[.string ⟨r.toArray⟩, .bool true]) := Lib.hid (fun r hr => plV_some h hr)
    have HN : Hid (plL s.data.toList = none → plV s = .tuple #[.string ⟨#[]⟩, .bool false]) := Lib.hid (fun hr => plV_none h hr)
    have H0 : Hid (plL s.data.toList = (plL (s.data.toList.drop 0)).map (fun r => (⟨#[]⟩ : ByteArray).data.toList ++ r)) := Lib.hid (by simp)
    generalize plV s = out at HY HN ⊢
    have hd : ¬ (1200 < (s.size : Int)) := by omega
    go_enter Tryz.func49, Tryz.ntmps49
    go_wp2
    go_loopw [4, 5] (fun o i wr => ∃ (n : Nat) (X : ByteArray), n ≤ s.size ∧ i = .int .i64 (n : Int) ∧ o = .string X ∧ X.size ≤ n ∧ Hid (plL s.data.toList = (plL (s.data.toList.drop n)).map (fun r => X.data.toList ++ r)) ∧ Below w.heap.size w wr) (fun _ i _ => s.size - (intOf i).toNat)
    case atStart => exact ⟨0, ⟨#[]⟩, Nat.zero_le _, rfl, rfl, Nat.le_refl _, H0, Below.refl _ _⟩
    case round =>
      obtain ⟨n, X, hn, rfl, rfl, hXs, HR, hB⟩ := hrel
      by_cases hlt : n < s.size
      · have hcons := drop_cons8 s n hlt
        have HNE : Hid (s.data.toList.drop n ≠ []) := Lib.hid (by rw [hcons]; simp)
        have HC := Lib.hid (fun w => l8Escape_any s[n] w)
        by_cases h38 : s[n] = 38
        · have hne : ((s[n].toNat : Int) != 38) = false := by rw [h38]; rfl
          have hstop : (∀ j, j < 4 → Lib.hasPrefix (s.data.toList.drop n) (eL j) = false) → pst (s.data.toList.drop n) = none := by
            intro hp
            rw [hcons] at hp ⊢
            rw [pst_miss _ _ hp, h38]; rfl
          have HST := Lib.hid hstop
          clear hstop h38 hcons HC
          go_wp2
          go_loopw [4, 5, 6, 7] (fun o i f k wr' => (∃ (k' : Nat) (z : Int), k' ≤ 4 ∧ k = .int .i64 z ∧ z = (k' : Int) ∧ f = .bool false ∧ o = .string X ∧ i = .int .i64 (n : Int) ∧ Below w.heap.size w wr' ∧ Hid (∀ j, j < k' → Lib.hasPrefix (s.data.toList.drop n) (eL j) = false)) ∨ (∃ (k' n' : Nat) (X' : ByteArray), k' ≤ 4 ∧ k = .int .i64 (k' : Int) ∧ f = .bool true ∧ o = .string X' ∧ i = .int .i64 (n' : Int) ∧ n < n' ∧ n' ≤ s.size ∧ X'.size ≤ n' ∧ Below w.heap.size w wr' ∧ Hid (plL s.data.toList = (plL (s.data.toList.drop n')).map (fun r => X'.data.toList ++ r)))) (fun _ _ _ k _ => 5 - (intOf k).toNat)
          case atStart => exact .inl ⟨0, 0, by omega, rfl, rfl, rfl, rfl, rfl, hB, Lib.hid (fun j hj => by omega)⟩
          case round =>
            rcases hrel with ⟨k', z, hk, rfl, hz, rfl, rfl, rfl, hB1, HP⟩ | ⟨k', n', X', hk, rfl, rfl, rfl, rfl, hn1, hn2, hX1, hB1, HR1⟩
            · rcases k' with _ | _ | _ | _ | k'
              · obtain rfl : z = 0 := by simpa using hz
                clear hz
                have HC := Lib.hid (fun w => l8Escape_any (mB 0) w)
                rw [show escS (mB 0) = eB 0 from rfl] at HC
                have hes := eB_size 0
                have hpe := pre_at s n (eB 0) (by omega)
                obtain ⟨E, hE⟩ : ∃ E, E = eB 0 := ⟨_, rfl⟩
                rw [← hE] at HC hes hpe
                by_cases hle : n + E.size ≤ s.size
                · have hleI : (E.size : Int) ≤ (s.size : Int) - (n : Int) := by omega
                  have hxI : (n : Int) + (E.size : Int) ≤ (s.size : Int) := by omega
                  by_cases heq : s.extract n (n + E.size) = E
                  · have hp : Lib.hasPrefix (s.data.toList.drop n) (eL 0) = true := by
                      show Lib.hasPrefix (s.data.toList.drop n) (eB 0).data.toList = true
                      rw [← hE]
                      exact hpe.2 ⟨hle, heq⟩
                    have hst := pst_hit _ 0 (by omega) (fun j hj => HP.out j hj) hp
                    have HR2 := Lib.hid (pl_step _ _ _ (mB 0) (eB 0).size HNE.out hst (by decide) HR.out)
                    rw [List.drop_drop, ← hE] at HR2
                    have hcv := conv_one8 wr (mB 0) (((⟨#[38, 60, 62, 34]⟩ : ByteArray)[0]'(by decide)).toNat : Int) rfl
                    have hcc := trivial
                    obtain ⟨Y, hY⟩ : ∃ Y : ByteArray, X ++ ⟨#[mB 0]⟩ = Y := ⟨_, rfl⟩
                    have HY2 : Hid (Y.data.toList = X.data.toList ++ [mB 0] ∧ Y.size = X.size + 1) := Lib.hid (by rw [← hY, app8, ByteArray.size_append]; exact ⟨rfl, rfl⟩)
                    rw [← HY2.out.1] at HR2
                    have hb1 := hB1.alloc hB1.size (.cells #[.int .u8 (((⟨#[38, 60, 62, 34]⟩ : ByteArray)[0]'(by decide)).toNat : Int)] 5)
                    have hsum : X.size + 1 ≤ 2000 := by omega
                    have hteq : ((s.extract n (n + E.size)).toList == E.toList) = true := by rw [heq]; simp
                    have hn1 : n < n + E.size := by omega
                    clear hp hst heq hpe hB1 hE
                    go_wp2_with fail
                    refine (HC.out _).mono ?_
                    rintro e w1 ⟨rfl, rfl⟩
                    go_wp2
                    refine ⟨.inr ⟨1, n + E.size, Y, by omega, rfl, rfl, rfl, by simp, hn1, hle, by have := HY2.out.2; omega, hb1, HR2⟩, ?_⟩
                    simp [intOf]
                  · have hp : Lib.hasPrefix (s.data.toList.drop n) (eL 0) = false := by
                      refine Bool.eq_false_iff.2 ?_
                      show ¬ Lib.hasPrefix (s.data.toList.drop n) (eB 0).data.toList = true
                      rw [← hE]
                      exact fun hq => heq (hpe.1 hq).2
                    have HP2 : Hid (∀ j, j < 1 → Lib.hasPrefix (s.data.toList.drop n) (eL j) = false) := Lib.hid (fun j hj => by
                      by_cases hjk : j < 0
                      · exact HP.out j hjk
                      · rw [show j = 0 by omega]; exact hp)
                    have hteq : ((s.extract n (n + E.size)).toList == E.toList) = false := by
                      have : ¬ (s.extract n (n + E.size)).toList = E.toList := fun hq => heq (str_eq8 hq)
                      simpa using this
                    clear hp heq hpe hE
                    go_wp2_with fail
                    refine (HC.out _).mono ?_
                    rintro e w1 ⟨rfl, rfl⟩
                    go_wp2
                    refine ⟨.inl ⟨1, 1, by omega, rfl, rfl, rfl, rfl, rfl, hB1, HP2⟩, ?_⟩
                    simp [intOf]
                · have hp : Lib.hasPrefix (s.data.toList.drop n) (eL 0) = false := by
                    refine Bool.eq_false_iff.2 ?_
                    show ¬ Lib.hasPrefix (s.data.toList.drop n) (eB 0).data.toList = true
                    rw [← hE]
                    exact fun hq => hle (hpe.1 hq).1
                  have HP2 : Hid (∀ j, j < 1 → Lib.hasPrefix (s.data.toList.drop n) (eL j) = false) := Lib.hid (fun j hj => by
                    by_cases hjk : j < 0
                    · exact HP.out j hjk
                    · rw [show j = 0 by omega]; exact hp)
                  have hleI : decide ((E.size : Int) ≤ (s.size : Int) - (n : Int)) = false := decide_eq_false (by omega)
                  have hleN : ¬ ((E.size : Int) ≤ (s.size : Int) - (n : Int)) := by omega
                  clear hp hpe hE hle
                  go_wp2_with fail
                  refine (HC.out _).mono ?_
                  rintro e w1 ⟨rfl, rfl⟩
                  go_wp2
                  refine ⟨.inl ⟨1, 1, by omega, rfl, rfl, rfl, rfl, rfl, hB1, HP2⟩, ?_⟩
                  simp [intOf]
              · obtain rfl : z = 1 := by simpa using hz
                clear hz
                have HC := Lib.hid (fun w => l8Escape_any (mB 1) w)
                rw [show escS (mB 1) = eB 1 from rfl] at HC
                have hes := eB_size 1
                have hpe := pre_at s n (eB 1) (by omega)
                obtain ⟨E, hE⟩ : ∃ E, E = eB 1 := ⟨_, rfl⟩
                rw [← hE] at HC hes hpe
                by_cases hle : n + E.size ≤ s.size
                · have hleI : (E.size : Int) ≤ (s.size : Int) - (n : Int) := by omega
                  have hxI : (n : Int) + (E.size : Int) ≤ (s.size : Int) := by omega
                  by_cases heq : s.extract n (n + E.size) = E
                  · have hp : Lib.hasPrefix (s.data.toList.drop n) (eL 1) = true := by
                      show Lib.hasPrefix (s.data.toList.drop n) (eB 1).data.toList = true
                      rw [← hE]
                      exact hpe.2 ⟨hle, heq⟩
                    have hst := pst_hit _ 1 (by omega) (fun j hj => HP.out j hj) hp
                    have HR2 := Lib.hid (pl_step _ _ _ (mB 1) (eB 1).size HNE.out hst (by decide) HR.out)
                    rw [List.drop_drop, ← hE] at HR2
                    have hcv := conv_one8 wr (mB 1) (((⟨#[38, 60, 62, 34]⟩ : ByteArray)[1]'(by decide)).toNat : Int) rfl
                    have hcc := trivial
                    obtain ⟨Y, hY⟩ : ∃ Y : ByteArray, X ++ ⟨#[mB 1]⟩ = Y := ⟨_, rfl⟩
                    have HY2 : Hid (Y.data.toList = X.data.toList ++ [mB 1] ∧ Y.size = X.size + 1) := Lib.hid (by rw [← hY, app8, ByteArray.size_append]; exact ⟨rfl, rfl⟩)
                    rw [← HY2.out.1] at HR2
                    have hb1 := hB1.alloc hB1.size (.cells #[.int .u8 (((⟨#[38, 60, 62, 34]⟩ : ByteArray)[1]'(by decide)).toNat : Int)] 5)
                    have hsum : X.size + 1 ≤ 2000 := by omega
                    have hteq : ((s.extract n (n + E.size)).toList == E.toList) = true := by rw [heq]; simp
                    have hn1 : n < n + E.size := by omega
                    clear hp hst heq hpe hB1 hE
                    go_wp2_with fail
                    refine (HC.out _).mono ?_
                    rintro e w1 ⟨rfl, rfl⟩
                    go_wp2
                    refine ⟨.inr ⟨2, n + E.size, Y, by omega, rfl, rfl, rfl, by simp, hn1, hle, by have := HY2.out.2; omega, hb1, HR2⟩, ?_⟩
                    simp [intOf]
                  · have hp : Lib.hasPrefix (s.data.toList.drop n) (eL 1) = false := by
                      refine Bool.eq_false_iff.2 ?_
                      show ¬ Lib.hasPrefix (s.data.toList.drop n) (eB 1).data.toList = true
                      rw [← hE]
                      exact fun hq => heq (hpe.1 hq).2
                    have HP2 : Hid (∀ j, j < 2 → Lib.hasPrefix (s.data.toList.drop n) (eL j) = false) := Lib.hid (fun j hj => by
                      by_cases hjk : j < 1
                      · exact HP.out j hjk
                      · rw [show j = 1 by omega]; exact hp)
                    have hteq : ((s.extract n (n + E.size)).toList == E.toList) = false := by
                      have : ¬ (s.extract n (n + E.size)).toList = E.toList := fun hq => heq (str_eq8 hq)
                      simpa using this
                    clear hp heq hpe hE
                    go_wp2_with fail
                    refine (HC.out _).mono ?_
                    rintro e w1 ⟨rfl, rfl⟩
                    go_wp2
                    refine ⟨.inl ⟨2, 2, by omega, rfl, rfl, rfl, rfl, rfl, hB1, HP2⟩, ?_⟩
                    simp [intOf]
                · have hp : Lib.hasPrefix (s.data.toList.drop n) (eL 1) = false := by
                    refine Bool.eq_false_iff.2 ?_
                    show ¬ Lib.hasPrefix (s.data.toList.drop n) (eB 1).data.toList = true
                    rw [← hE]
                    exact fun hq => hle (hpe.1 hq).1
                  have HP2 : Hid (∀ j, j < 2 → Lib.hasPrefix (s.data.toList.drop n) (eL j) = false) := Lib.hid (fun j hj => by
                    by_cases hjk : j < 1
                    · exact HP.out j hjk
                    · rw [show j = 1 by omega]; exact hp)
                  have hleI : decide ((E.size : Int) ≤ (s.size : Int) - (n : Int)) = false := decide_eq_false (by omega)
                  have hleN : ¬ ((E.size : Int) ≤ (s.size : Int) - (n : Int)) := by omega
                  clear hp hpe hE hle
                  go_wp2_with fail
                  refine (HC.out _).mono ?_
                  rintro e w1 ⟨rfl, rfl⟩
                  go_wp2
                  refine ⟨.inl ⟨2, 2, by omega, rfl, rfl, rfl, rfl, rfl, hB1, HP2⟩, ?_⟩
                  simp [intOf]
              · obtain rfl : z = 2 := by simpa using hz
                clear hz
                have HC := Lib.hid (fun w => l8Escape_any (mB 2) w)
                rw [show escS (mB 2) = eB 2 from rfl] at HC
                have hes := eB_size 2
                have hpe := pre_at s n (eB 2) (by omega)
                obtain ⟨E, hE⟩ : ∃ E, E = eB 2 := ⟨_, rfl⟩
                rw [← hE] at HC hes hpe
                by_cases hle : n + E.size ≤ s.size
                · have hleI : (E.size : Int) ≤ (s.size : Int) - (n : Int) := by omega
                  have hxI : (n : Int) + (E.size : Int) ≤ (s.size : Int) := by omega
                  by_cases heq : s.extract n (n + E.size) = E
                  · have hp : Lib.hasPrefix (s.data.toList.drop n) (eL 2) = true := by
                      show Lib.hasPrefix (s.data.toList.drop n) (eB 2).data.toList = true
                      rw [← hE]
                      exact hpe.2 ⟨hle, heq⟩
                    have hst := pst_hit _ 2 (by omega) (fun j hj => HP.out j hj) hp
                    have HR2 := Lib.hid (pl_step _ _ _ (mB 2) (eB 2).size HNE.out hst (by decide) HR.out)
                    rw [List.drop_drop, ← hE] at HR2
                    have hcv := conv_one8 wr (mB 2) (((⟨#[38, 60, 62, 34]⟩ : ByteArray)[2]'(by decide)).toNat : Int) rfl
                    have hcc := trivial
                    obtain ⟨Y, hY⟩ : ∃ Y : ByteArray, X ++ ⟨#[mB 2]⟩ = Y := ⟨_, rfl⟩
                    have HY2 : Hid (Y.data.toList = X.data.toList ++ [mB 2] ∧ Y.size = X.size + 1) := Lib.hid (by rw [← hY, app8, ByteArray.size_append]; exact ⟨rfl, rfl⟩)
                    rw [← HY2.out.1] at HR2
                    have hb1 := hB1.alloc hB1.size (.cells #[.int .u8 (((⟨#[38, 60, 62, 34]⟩ : ByteArray)[2]'(by decide)).toNat : Int)] 5)
                    have hsum : X.size + 1 ≤ 2000 := by omega
                    have hteq : ((s.extract n (n + E.size)).toList == E.toList) = true := by rw [heq]; simp
                    have hn1 : n < n + E.size := by omega
                    clear hp hst heq hpe hB1 hE
                    go_wp2_with fail
                    refine (HC.out _).mono ?_
                    rintro e w1 ⟨rfl, rfl⟩
                    go_wp2
                    refine ⟨.inr ⟨3, n + E.size, Y, by omega, rfl, rfl, rfl, by simp, hn1, hle, by have := HY2.out.2; omega, hb1, HR2⟩, ?_⟩
                    simp [intOf]
                  · have hp : Lib.hasPrefix (s.data.toList.drop n) (eL 2) = false := by
                      refine Bool.eq_false_iff.2 ?_
                      show ¬ Lib.hasPrefix (s.data.toList.drop n) (eB 2).data.toList = true
                      rw [← hE]
                      exact fun hq => heq (hpe.1 hq).2
                    have HP2 : Hid (∀ j, j < 3 → Lib.hasPrefix (s.data.toList.drop n) (eL j) = false) := Lib.hid (fun j hj => by
                      by_cases hjk : j < 2
                      · exact HP.out j hjk
                      · rw [show j = 2 by omega]; exact hp)
                    have hteq : ((s.extract n (n + E.size)).toList == E.toList) = false := by
                      have : ¬ (s.extract n (n + E.size)).toList = E.toList := fun hq => heq (str_eq8 hq)
                      simpa using this
                    clear hp heq hpe hE
                    go_wp2_with fail
                    refine (HC.out _).mono ?_
                    rintro e w1 ⟨rfl, rfl⟩
                    go_wp2
                    refine ⟨.inl ⟨3, 3, by omega, rfl, rfl, rfl, rfl, rfl, hB1, HP2⟩, ?_⟩
                    simp [intOf]
                · have hp : Lib.hasPrefix (s.data.toList.drop n) (eL 2) = false := by
                    refine Bool.eq_false_iff.2 ?_
                    show ¬ Lib.hasPrefix (s.data.toList.drop n) (eB 2).data.toList = true
                    rw [← hE]
                    exact fun hq => hle (hpe.1 hq).1
                  have HP2 : Hid (∀ j, j < 3 → Lib.hasPrefix (s.data.toList.drop n) (eL j) = false) := Lib.hid (fun j hj => by
                    by_cases hjk : j < 2
                    · exact HP.out j hjk
                    · rw [show j = 2 by omega]; exact hp)
                  have hleI : decide ((E.size : Int) ≤ (s.size : Int) - (n : Int)) = false := decide_eq_false (by omega)
                  have hleN : ¬ ((E.size : Int) ≤ (s.size : Int) - (n : Int)) := by omega
                  clear hp hpe hE hle
                  go_wp2_with fail
                  refine (HC.out _).mono ?_
                  rintro e w1 ⟨rfl, rfl⟩
                  go_wp2
                  refine ⟨.inl ⟨3, 3, by omega, rfl, rfl, rfl, rfl, rfl, hB1, HP2⟩, ?_⟩
                  simp [intOf]
              · obtain rfl : z = 3 := by simpa using hz
                clear hz
                have HC := Lib.hid (fun w => l8Escape_any (mB 3) w)
                rw [show escS (mB 3) = eB 3 from rfl] at HC
                have hes := eB_size 3
                have hpe := pre_at s n (eB 3) (by omega)
                obtain ⟨E, hE⟩ : ∃ E, E = eB 3 := ⟨_, rfl⟩
                rw [← hE] at HC hes hpe
                by_cases hle : n + E.size ≤ s.size
                · have hleI : (E.size : Int) ≤ (s.size : Int) - (n : Int) := by omega
                  have hxI : (n : Int) + (E.size : Int) ≤ (s.size : Int) := by omega
                  by_cases heq : s.extract n (n + E.size) = E
                  · have hp : Lib.hasPrefix (s.data.toList.drop n) (eL 3) = true := by
                      show Lib.hasPrefix (s.data.toList.drop n) (eB 3).data.toList = true
                      rw [← hE]
                      exact hpe.2 ⟨hle, heq⟩
                    have hst := pst_hit _ 3 (by omega) (fun j hj => HP.out j hj) hp
                    have HR2 := Lib.hid (pl_step _ _ _ (mB 3) (eB 3).size HNE.out hst (by decide) HR.out)
                    rw [List.drop_drop, ← hE] at HR2
                    have hcv := conv_one8 wr (mB 3) (((⟨#[38, 60, 62, 34]⟩ : ByteArray)[3]'(by decide)).toNat : Int) rfl
                    have hcc := trivial
                    obtain ⟨Y, hY⟩ : ∃ Y : ByteArray, X ++ ⟨#[mB 3]⟩ = Y := ⟨_, rfl⟩
                    have HY2 : Hid (Y.data.toList = X.data.toList ++ [mB 3] ∧ Y.size = X.size + 1) := Lib.hid (by rw [← hY, app8, ByteArray.size_append]; exact ⟨rfl, rfl⟩)
                    rw [← HY2.out.1] at HR2
                    have hb1 := hB1.alloc hB1.size (.cells #[.int .u8 (((⟨#[38, 60, 62, 34]⟩ : ByteArray)[3]'(by decide)).toNat : Int)] 5)
                    have hsum : X.size + 1 ≤ 2000 := by omega
                    have hteq : ((s.extract n (n + E.size)).toList == E.toList) = true := by rw [heq]; simp
                    have hn1 : n < n + E.size := by omega
                    clear hp hst heq hpe hB1 hE
                    go_wp2_with fail
                    refine (HC.out _).mono ?_
                    rintro e w1 ⟨rfl, rfl⟩
                    go_wp2
                    refine ⟨.inr ⟨4, n + E.size, Y, by omega, rfl, rfl, rfl, by simp, hn1, hle, by have := HY2.out.2; omega, hb1, HR2⟩, ?_⟩
                    simp [intOf]
                  · have hp : Lib.hasPrefix (s.data.toList.drop n) (eL 3) = false := by
                      refine Bool.eq_false_iff.2 ?_
                      show ¬ Lib.hasPrefix (s.data.toList.drop n) (eB 3).data.toList = true
                      rw [← hE]
                      exact fun hq => heq (hpe.1 hq).2
                    have HP2 : Hid (∀ j, j < 4 → Lib.hasPrefix (s.data.toList.drop n) (eL j) = false) := Lib.hid (fun j hj => by
                      by_cases hjk : j < 3
                      · exact HP.out j hjk
                      · rw [show j = 3 by omega]; exact hp)
                    have hteq : ((s.extract n (n + E.size)).toList == E.toList) = false := by
                      have : ¬ (s.extract n (n + E.size)).toList = E.toList := fun hq => heq (str_eq8 hq)
                      simpa using this
                    clear hp heq hpe hE
                    go_wp2_with fail
                    refine (HC.out _).mono ?_
                    rintro e w1 ⟨rfl, rfl⟩
                    go_wp2
                    refine ⟨.inl ⟨4, 4, by omega, rfl, rfl, rfl, rfl, rfl, hB1, HP2⟩, ?_⟩
                    simp [intOf]
                · have hp : Lib.hasPrefix (s.data.toList.drop n) (eL 3) = false := by
                    refine Bool.eq_false_iff.2 ?_
                    show ¬ Lib.hasPrefix (s.data.toList.drop n) (eB 3).data.toList = true
                    rw [← hE]
                    exact fun hq => hle (hpe.1 hq).1
                  have HP2 : Hid (∀ j, j < 4 → Lib.hasPrefix (s.data.toList.drop n) (eL j) = false) := Lib.hid (fun j hj => by
                    by_cases hjk : j < 3
                    · exact HP.out j hjk
                    · rw [show j = 3 by omega]; exact hp)
                  have hleI : decide ((E.size : Int) ≤ (s.size : Int) - (n : Int)) = false := decide_eq_false (by omega)
                  have hleN : ¬ ((E.size : Int) ≤ (s.size : Int) - (n : Int)) := by omega
                  clear hp hpe hE hle
                  go_wp2_with fail
                  refine (HC.out _).mono ?_
                  rintro e w1 ⟨rfl, rfl⟩
                  go_wp2
                  refine ⟨.inl ⟨4, 4, by omega, rfl, rfl, rfl, rfl, rfl, hB1, HP2⟩, ?_⟩
                  simp [intOf]
              · have hk4 : k' = 0 := by omega
                subst hk4
                obtain rfl : z = 4 := by simpa using hz
                clear hz
                have HS := Lib.hid (pl_stop _ _ _ HNE.out (HST.out (fun j hj => HP.out j (by omega))) HR.out)
                go_wp2
                go_ret2
                exact ⟨by rw [HN.out HS.out]; rfl, hB1⟩
            · by_cases hk4 : k' < 4
              · have hk4I : (k' : Int) < 4 := by omega
                go_wp2
                go_roundw
                case rel => exact ⟨n', X', hn2, rfl, rfl, hX1, HR1, hB1⟩
                case measure => simp [intOf]; omega
              · have hk4I : ¬ ((k' : Int) < 4) := by omega
                have hk4d : decide ((k' : Int) < 4) = false := decide_eq_false (by omega)
                go_wp2
                go_roundw
                case rel => exact ⟨n', X', hn2, rfl, rfl, hX1, HR1, hB1⟩
                case measure => simp [intOf]; omega
        · have hne : ((s[n].toNat : Int) != 38) = true := by
            have := byte_ne (d := 38) h38
            simpa using this
          have hpm : pst (s.data.toList.drop n) = if escM s[n] = [] then some (s[n], 1) else none := by
            rw [hcons]
            exact pst_miss _ _ (fun j hj => head_ne _ _ h38 j)
          have hem := escS_empty s[n]
          by_cases hm : escM s[n] = []
          · rw [show escS s[n] = ⟨#[]⟩ by unfold escS; rw [hm]] at HC
            rw [if_pos hm] at hpm
            have HR2 := Lib.hid (pl_step _ _ _ s[n] 1 HNE.out hpm (by omega) HR.out)
            rw [List.drop_drop, ← one_byte s n hlt] at HR2
            have hs1 : (s.extract n (n + 1)).size = 1 := by rw [ByteArray.size_extract]; omega
            obtain ⟨P, hP⟩ : ∃ P, s.extract n (n + 1) = P := ⟨_, rfl⟩
            rw [hP] at HR2 hs1
            obtain ⟨Y, hY⟩ : ∃ Y, X ++ P = Y := ⟨_, rfl⟩
            have HY2 : Hid (Y.data.toList = X.data.toList ++ P.data.toList ∧ Y.size = X.size + 1) := Lib.hid (by rw [← hY, app8, ByteArray.size_append, hs1]; exact ⟨rfl, rfl⟩)
            rw [← HY2.out.1] at HR2
            have hsum : X.size + P.size ≤ 3000 := by omega
            have hk1 : (n : Int) + 1 ≤ (s.size : Int) := by omega
            clear hpm hm hem hcons h38
            go_wp2_with fail
            refine (HC.out _).mono ?_
            rintro e w1 ⟨rfl, rfl⟩
            go_wp2
            go_roundw
            case rel => exact ⟨n + 1, Y, by omega, by simp, rfl, by have := HY2.out.2; omega, HR2, hB⟩
            case measure => simp [intOf]; omega
          · have hem2 : (escS s[n]).toList.isEmpty = false := by
              rw [hem]
              cases hq : escM s[n] with
              | nil => exact absurd hq hm
              | cons a b => rfl
            rw [if_neg hm] at hpm
            have HS := Lib.hid (pl_stop _ _ _ HNE.out hpm HR.out)
            generalize escS s[n] = P at HC hem2
            clear hpm hm hem hcons h38
            go_wp2_with fail
            refine (HC.out _).mono ?_
            rintro e w1 ⟨rfl, rfl⟩
            go_wp2
            go_ret2
            exact ⟨by rw [HN.out HS.out]; rfl, hB⟩
      · have hl : s.data.toList.length = s.size := by simp
        have HE := Lib.hid (HY.out X.data.toList (pl_end _ _ (by have := HR.out; rw [List.drop_eq_nil_of_le (by rw [hl]; omega)] at this; exact this)))
        have hX : (⟨X.data.toList.toArray⟩ : ByteArray) = X := by apply ba_eq; simp
        rw [hX] at HE
        clear hl hX
        go_wp2
        go_ret2
        exact ⟨by rw [HE.out]; rfl, hB⟩
  · have HE := Lib.hid (plV_long h)
    rw [HE.out]
    have hd : 1200 < (s.size : Int) := by omega
    clear h HE
    go_enter Tryz.func49, Tryz.ntmps49
    go_wp2
    go_ret2
    exact ⟨rfl, Below.refl _ _⟩
end Go.Proofs.YtffkakpbelknaaaGreatDoor

/- PlainE2 -/
namespace Go.Proofs.YtffkakpbelknaaaGreatDoor
set_option linter.unusedVariables false

theorem esc_mark (c : UInt8) (h : escM c ≠ []) : ∃ k, k < 4 ∧ c = mB k ∧ esc c = eL k := by
  have he : esc c = escM c := if_neg h
  rw [he]
  unfold escM at h ⊢
  by_cases h1 : c = 38
  · subst h1; exact ⟨0, by omega, rfl, rfl⟩
  rw [if_neg h1] at h ⊢
  by_cases h2 : c = 60
  · subst h2; exact ⟨1, by omega, rfl, rfl⟩
  rw [if_neg h2] at h ⊢
  by_cases h3 : c = 62
  · subst h3; exact ⟨2, by omega, rfl, rfl⟩
  rw [if_neg h3] at h ⊢
  by_cases h4 : c = 34
  · subst h4; exact ⟨3, by omega, rfl, rfl⟩
  rw [if_neg h4] at h
  exact absurd rfl h
theorem esc_of_mark (k : Nat) (h : k < 4) : esc (mB k) = eL k := by
  rcases k with _ | _ | _ | _ | k
  · rfl
  · rfl
  · rfl
  · rfl
  · omega
theorem not_amp {c : UInt8} (h : escM c = []) : c ≠ 38 := fun e => by subst e; cases h
theorem pre_other (k j : Nat) (hk : k < 4) (hj : j < k) (r : List UInt8) : Lib.hasPrefix (eL k ++ r) (eL j) = false := by
  rcases k with _ | _ | _ | _ | k
  · omega
  all_goals (rcases j with _ | _ | _ | j) <;> first | omega | rfl
theorem pre_self (k : Nat) (r : List UInt8) : Lib.hasPrefix (eL k ++ r) (eL k) = true := by
  unfold Lib.hasPrefix
  exact List.isPrefixOf_iff_prefix.2 ⟨r, rfl⟩
theorem pst_esc (c : UInt8) (r : List UInt8) : pst (esc c ++ r) = some (c, (esc c).length) := by
  by_cases h : escM c = []
  · have he : esc c = [c] := if_pos h
    rw [he]
    show pst (c :: r) = _
    rw [pst_miss c r (fun j _ => head_ne c r (not_amp h) j), if_pos h]
    rfl
  · obtain ⟨k, hk, hc, he⟩ := esc_mark c h
    rw [he, pst_hit (eL k ++ r) k hk (fun j hj => pre_other k j hk hj r) (pre_self k r), hc]
    rfl
theorem esc_ne (c : UInt8) : esc c ≠ [] := by
  unfold esc
  split
  · simp
  · assumption
theorem plain_escaped : ∀ l : List UInt8, plL (escL l) = some l
  | [] => plL_nil
  | c :: l => by
    have e : escL (c :: l) = esc c ++ escL l := by unfold escL; rw [List.flatMap_cons]
    have hne : esc c ++ escL l ≠ [] := fun h => esc_ne c (List.append_eq_nil_iff.1 h).1
    have h1 : 1 ≤ (esc c).length := by
      cases hq : esc c with
      | nil => exact absurd hq (esc_ne c)
      | cons a b => simp
    rw [e, plL_some _ c (esc c).length hne (pst_esc c (escL l)) h1, List.drop_left' rfl, plain_escaped l]
    rfl
theorem pst_back (t : List UInt8) (b : UInt8) (k : Nat) (h : pst t = some (b, k)) : 1 ≤ k ∧ t = esc b ++ t.drop k := by
  have hit : ∀ j, j < 4 → Lib.hasPrefix t (eL j) = true → t = eL j ++ t.drop (eL j).length := by
    intro j _ hp
    obtain ⟨r, hr⟩ := List.isPrefixOf_iff_prefix.1 hp
    rw [← hr, List.drop_left' rfl]
  unfold pst at h
  by_cases h0 : Lib.hasPrefix t (eL 0) = true
  · rw [if_pos h0] at h
    cases h
    exact ⟨by omega, hit 0 (by omega) h0⟩
  rw [if_neg h0] at h
  by_cases h1 : Lib.hasPrefix t (eL 1) = true
  · rw [if_pos h1] at h
    cases h
    exact ⟨by omega, hit 1 (by omega) h1⟩
  rw [if_neg h1] at h
  by_cases h2 : Lib.hasPrefix t (eL 2) = true
  · rw [if_pos h2] at h
    cases h
    exact ⟨by omega, hit 2 (by omega) h2⟩
  rw [if_neg h2] at h
  by_cases h3 : Lib.hasPrefix t (eL 3) = true
  · rw [if_pos h3] at h
    cases h
    exact ⟨by omega, hit 3 (by omega) h3⟩
  rw [if_neg h3] at h
  cases t with
  | nil => cases h
  | cons c r =>
    simp only at h
    by_cases hm : escM c = []
    · rw [if_pos hm] at h
      cases h
      refine ⟨by omega, ?_⟩
      rw [show esc b = [b] from if_pos hm]
      rfl
    · rw [if_neg hm] at h
      cases h
theorem escaped_plain : ∀ (n : Nat) (t p : List UInt8), t.length ≤ n → plL t = some p → escL p = t
  | 0, t, p, hn, h => by
    have : t = [] := List.eq_nil_of_length_eq_zero (by omega)
    subst this
    rw [plL_nil] at h
    cases h
    rfl
  | n + 1, t, p, hn, h => by
    by_cases ht : t = []
    · subst ht
      rw [plL_nil] at h
      cases h
      rfl
    · cases hp : pst t with
      | none => rw [plL_none t ht hp] at h; cases h
      | some bk =>
        obtain ⟨b, k⟩ := bk
        obtain ⟨hk, he⟩ := pst_back t b k hp
        rw [plL_some t b k ht hp hk] at h
        cases hq : plL (t.drop k) with
        | none => rw [hq] at h; cases h
        | some p' =>
          rw [hq] at h
          cases h
          have hl : 0 < t.length := by cases t with | nil => exact absurd rfl ht | cons a b => simp
          have ih := escaped_plain n (t.drop k) p' (by rw [List.length_drop]; omega) hq
          show escL (b :: p') = t
          have e : escL (b :: p') = esc b ++ escL p' := by unfold escL; rw [List.flatMap_cons]
          rw [e, ih, ← he]
theorem plain_len : ∀ p : List UInt8, p.length ≤ (escL p).length
  | [] => Nat.le_refl _
  | c :: l => by
    have e : escL (c :: l) = esc c ++ escL l := by unfold escL; rw [List.flatMap_cons]
    have h := plain_len l
    have h1 : 1 ≤ (esc c).length := by
      cases hq : esc c with
      | nil => exact absurd hq (esc_ne c)
      | cons a b => simp
    rw [e, List.length_append, List.length_cons]
    omega
theorem no_marks (l : List UInt8) (b : UInt8) (h : b ∈ escL l) : b ≠ 60 ∧ b ≠ 62 ∧ b ≠ 34 := by
  unfold escL at h
  obtain ⟨c, _, hc⟩ := List.mem_flatMap.1 h
  by_cases hm : escM c = []
  · rw [show esc c = [c] from if_pos hm] at hc
    have : b = c := by simpa using hc
    subst this
    refine ⟨?_, ?_, ?_⟩ <;> (intro e; subst e; cases hm)
  · obtain ⟨k, hk, _, he⟩ := esc_mark c hm
    rw [he] at hc
    rcases k with _ | _ | _ | _ | k
    all_goals first | omega | (simp [eL, eB] at hc; rcases hc with rfl | rfl | rfl | rfl | rfl | rfl <;> decide) | (simp [eL, eB] at hc; rcases hc with rfl | rfl | rfl | rfl | rfl <;> decide) | (simp [eL, eB] at hc; rcases hc with rfl | rfl | rfl | rfl <;> decide)
end Go.Proofs.YtffkakpbelknaaaGreatDoor
