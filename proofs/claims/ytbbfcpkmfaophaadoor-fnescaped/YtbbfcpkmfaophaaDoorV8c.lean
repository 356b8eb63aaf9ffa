/- Walk of the law FnEscaped. -/
import Derived.Test.YtbbfcpkmfaophaaDoorPlainE2
import Derived.Test.YtbbfcpkmfaophaaDoorDraw13
import Derived.Test.YtbbfcpkmfaophaaDoorV8b
namespace Go.Proofs.YtbbfcpkmfaophaaDoor
open Go.ChangeShapes Go.WideShapes Go.ChangeAt Go.RowKit
set_option linter.unusedVariables false

theorem escR_in (s : ByteArray) (h : s.size ≤ 200) : escR s = escB s := by unfold escR; rw [if_pos h]
theorem escB_list (s : ByteArray) : (escB s).data.toList = escL s.data.toList := by unfold escB; simp
theorem escB_marks (s : ByteArray) (k : Nat) (h : k < (escB s).size) : (((escB s)[k].toNat : Int) == 60) = false ∧ (((escB s)[k].toNat : Int) == 62) = false ∧ (((escB s)[k].toNat : Int) == 34) = false := by
  have hm : (escB s)[k] ∈ escL s.data.toList := by
    rw [← escB_list]
    have h' : k < (escB s).data.toList.length := by simpa using h
    have e : (escB s)[k] = (escB s).data.toList[k] := by simp; rfl
    rw [e]
    exact List.getElem_mem h'
  obtain ⟨h1, h2, h3⟩ := no_marks _ _ hm
  exact ⟨byte_ne (d := 60) h1, byte_ne (d := 62) h2, byte_ne (d := 34) h3⟩
theorem escB_size (s : ByteArray) (h : s.size ≤ 20) : (escB s).size ≤ 120 := by
  have := escR_size s h
  rwa [escR_in s (by omega)] at this
theorem plV_escB (s : ByteArray) (h : s.size ≤ 20) : plV (escB s) = .tuple #[.string s, .bool true] :=
  plV_some (r := s.data.toList) (by have := escB_size s h; omega) (by rw [escB_list]; exact plain_escaped _)
theorem escR_back (t : ByteArray) (r : List UInt8) (h : t.size ≤ 121) (hp : plL t.data.toList = some r) : escR ⟨r.toArray⟩ = t := by
  have he := escaped_plain _ _ _ (Nat.le_refl _) hp
  have hl := plain_len r
  rw [he] at hl
  have h2 : t.data.toList.length = t.size := by simp
  have h3 : (⟨r.toArray⟩ : ByteArray).size = r.length := by show r.toArray.size = _; simp
  rw [escR_in _ (by omega)]
  apply ba_eq
  rw [escB_list]
  simpa using he

set_option maxRecDepth 100000 in
set_option maxHeartbeats 4000000 in
theorem walk_FnEscaped (a : Option Addr) (len cap : Nat) (z : List Int) (w : World) (h : IsRow .u8 w a len cap z) (hk : ETab w) :
    Calls Tryd.prog 8 #[.slice a len cap] w fun e w' => e = .returned (.bool true) ∧ Below w.heap.size w w' := by
  have HK := Lib.hid hk
  have hcd := Cd.of_row h
  obtain ⟨cv, hcv⟩ : ∃ cv : Value, cv = .slice a len cap := ⟨_, rfl⟩
  rw [← hcv] at hcd ⊢
  clear h hcv hk
  go_enter Tryd.func8, Tryd.ntmps8
  go_wp2_with fail
  refine (big_any _ cv _ hcd).mono ?_
  rintro e w1 ⟨⟨b, rfl⟩, rfl⟩
  cases b with
  | true =>
    go_wp2
    go_ret
    exact ⟨rfl, Below.refl _ _⟩
  | false =>
    go_wp2_with fail
    refine (drawEscaped_any _ cv _ hcd).mono ?_
    rintro e v1 ⟨s, rfl, hs, hd1⟩
    have hcd1 := hcd.below hd1
    have I1 := Lib.hid (fun w hE => implEscaped_any s w hE)
    have S1 := Lib.hid (fun w => specEscaped_any s w)
    rw [escR_in s (by omega)] at I1 S1
    have I3 := Lib.hid (fun w hE => implPlain_any (escB s) w hE)
    rw [plV_escB s (by omega)] at I3
    have HN := Lib.hid (escB_marks s)
    have hEs := escB_size s (by omega)
    generalize escB s = E at I1 S1 I3 HN hEs
    clear hcd
    go_wp2_with fail
    refine (I1.out _ (HK.out.below hd1 (Nat.le_refl _))).mono ?_
    rintro e v2 ⟨rfl, hd2⟩
    have hd02 := hd1.trans (hd2.mono hd1.size)
    have hcd2 := hcd1.below hd2
    clear hd1 hd2 hcd1 I1
    go_wp2_with fail
    refine (drawPlain_any _ cv _ hcd2).mono ?_
    rintro e v3 ⟨t, rfl, ht, hd3⟩
    have hd03 := hd02.trans (hd3.mono hd02.size)
    clear hd02 hd3 hcd2
    have IP := Lib.hid (fun w hE => implPlain_any t w hE)
    have SP := Lib.hid (fun w => specPlain_any t w)
    cases hpl : plL t.data.toList with
    | none =>
      rw [plV_none (by omega) hpl] at IP SP
      clear hpl
      go_wp2_with fail
      refine (IP.out _ (HK.out.below hd03 (Nat.le_refl _))).mono ?_
      rintro e v4 ⟨rfl, hd4⟩
      have hd04 := hd03.trans (hd4.mono hd03.size)
      clear hd03 hd4 IP
      go_wp2_with fail
      refine (SP.out _).mono ?_
      rintro e v5 ⟨rfl, hd5⟩
      have hd05 := hd04.trans (hd5.mono hd04.size)
      clear hd04 hd5 SP
      go_wp2_with fail
      refine (S1.out _).mono ?_
      rintro e v6 ⟨rfl, hd6⟩
      have HB := hd05.trans (hd6.mono hd05.size)
      clear hd05 hd6 S1
      go_wp2
      go_loopw [10] (fun i wr => ∃ k : Nat, k ≤ E.size ∧ i = .int .i64 (k : Int) ∧ Below w.heap.size w wr) (fun i _ => E.size - (intOf i).toNat)
      case atStart => exact ⟨0, Nat.zero_le _, rfl, HB⟩
      case round =>
        obtain ⟨k, hk, rfl, hB⟩ := hrel
        clear HB
        by_cases hlt : k < E.size
        · obtain ⟨e1, e2, e3⟩ := HN.out k hlt
          go_wp2
          go_roundw
          case rel => exact ⟨k + 1, by omega, by go_num, hB⟩
          case measure => simp [intOf]; omega
        · go_wp2_with fail
          refine (I3.out _ (HK.out.below hB (Nat.le_refl _))).mono ?_
          rintro e v9 ⟨rfl, hd9⟩
          go_wp2
          go_ret
          exact ⟨ret_bool (by simp), hB.trans (hd9.mono hB.size)⟩
    | some r =>
      rw [plV_some (by omega) hpl] at IP SP
      have IE := Lib.hid (fun w hE => implEscaped_any ⟨r.toArray⟩ w hE)
      rw [escR_back t r ht hpl] at IE
      clear hpl
      generalize (⟨r.toArray⟩ : ByteArray) = p at IP SP IE
      go_wp2_with fail
      refine (IP.out _ (HK.out.below hd03 (Nat.le_refl _))).mono ?_
      rintro e v4 ⟨rfl, hd4⟩
      have hd04 := hd03.trans (hd4.mono hd03.size)
      clear hd03 hd4 IP
      go_wp2_with fail
      refine (SP.out _).mono ?_
      rintro e v5 ⟨rfl, hd5⟩
      have hd05 := hd04.trans (hd5.mono hd04.size)
      clear hd04 hd5 SP
      go_wp2_with fail
      refine (S1.out _).mono ?_
      rintro e v6 ⟨rfl, hd6⟩
      have HB := hd05.trans (hd6.mono hd05.size)
      clear hd05 hd6 S1
      go_wp2_with fail
      refine (IE.out _ (HK.out.below HB (Nat.le_refl _))).mono ?_
      rintro e v7 ⟨rfl, hd7⟩
      replace HB := HB.trans (hd7.mono HB.size)
      clear hd7 IE
      go_wp2
      go_loopw [10] (fun i wr => ∃ k : Nat, k ≤ E.size ∧ i = .int .i64 (k : Int) ∧ Below w.heap.size w wr) (fun i _ => E.size - (intOf i).toNat)
      case atStart => exact ⟨0, Nat.zero_le _, rfl, HB⟩
      case round =>
        obtain ⟨k, hk, rfl, hB⟩ := hrel
        clear HB
        by_cases hlt : k < E.size
        · obtain ⟨e1, e2, e3⟩ := HN.out k hlt
          go_wp2
          go_roundw
          case rel => exact ⟨k + 1, by omega, by go_num, hB⟩
          case measure => simp [intOf]; omega
        · go_wp2_with fail
          refine (I3.out _ (HK.out.below hB (Nat.le_refl _))).mono ?_
          rintro e v9 ⟨rfl, hd9⟩
          go_wp2
          go_ret
          exact ⟨ret_bool (by simp), hB.trans (hd9.mono hB.size)⟩
end Go.Proofs.YtbbfcpkmfaophaaDoor
