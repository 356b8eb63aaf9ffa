/- Contract: the block of the reference. -/
import Derived.Test.YtfjaincogbdeiaaGreatDoorW2h
import Derived.Test.YtfjaincogbdeiaaGreatDoorW2d
import Derived.Test.YtfjaincogbdeiaaGreatDoorW1f
import Derived.Test.YtfjaincogbdeiaaGreatDoorW1g
namespace Go.Proofs.YtfjaincogbdeiaaGreatDoor
open Go.ChangeShapes Go.WideShapes Go.ChangeAt Go.RowKit
set_option linter.unusedVariables false

def chaPre : ByteArray := ⟨#[101, 120, 112, 97, 110, 100, 32, 51, 50, 45, 98, 121, 116, 101, 32, 107]⟩
/-- The sixteen words that a block begins with. -/
def firstL (key nonce : ByteArray) (c : Int) : List Int := loadL (chaPre ++ key).data.toList ++ [c] ++ loadL nonce.data.toList
def sumL (xs ys : List Int) : List Int := List.zipWith add32 xs ys
def blkR (key nonce : ByteArray) (c : Int) : ByteArray := ⟨(storeL (sumL (tenN 10 (firstL key nonce c)) (firstL key nonce c))).toArray⟩
theorem size_pre (key : ByteArray) : (chaPre ++ key).size = 16 + key.size := by rw [ByteArray.size_append]; rfl
theorem firstL_st (key nonce : ByteArray) (c : Int) (hk : key.size = 32) (hn : nonce.size = 12) (hc : isU c) : isSt (firstL key nonce c) := by
  unfold firstL
  refine ⟨?_, ?_⟩
  · have h1 : (chaPre ++ key).data.toList.length = 48 := by
      have := size_pre key
      rw [hk] at this
      simpa using this
    have h2 : nonce.data.toList.length = 12 := by simpa using hn
    rw [List.length_append, List.length_append, loadL_len, loadL_len, h1, h2]; rfl
  · intro x hx
    rcases List.mem_append.1 hx with hx | hx
    · rcases List.mem_append.1 hx with hx | hx
      · exact loadL_words _ x hx
      · simp at hx; rw [hx]; exact hc
    · exact loadL_words _ x hx

theorem sumL_len {xs ys : List Int} (h1 : xs.length = 16) (h2 : ys.length = 16) : (sumL xs ys).length = 16 := by simp [sumL, h1, h2]
theorem sumL_step {xs ys : List Int} (hsl : (sumL xs ys).length = 16) (n : Nat) (hx : n < xs.length) (hy : n < ys.length) : ((sumL xs ys).take n ++ xs.drop n).set n (add32 xs[n] ys[n]) = (sumL xs ys).take (n + 1) ++ xs.drop (n + 1) := by
  have hn : n < (sumL xs ys).length := by simp [sumL]; omega
  have e : add32 xs[n] ys[n] = (sumL xs ys)[n] := by simp [sumL]
  have hl : ((sumL xs ys).take n).length = n := by simp; omega
  rw [e, List.set_append_right _ _ (by omega), hl, Nat.sub_self, List.drop_eq_getElem_cons hx, List.set_cons_zero, List.take_succ_eq_append_getElem hn, List.append_assoc]
  rfl
theorem ownK_cell' {e : TypeId} {k : IntKind} {w : World} {base g cap n : Nat} {zs : List Int} (h : OwnK e k w base (.slice (some ⟨g, 0, none⟩) n cap) zs) (hn : n = zs.length) (j : Nat) (hj : j < zs.length) : w.cell? ⟨g, j, none⟩ = some (.int k zs[j]) := by
  subst hn
  have := World.ownsRow.cellAt h j (by omega)
  rw [this]
  have hk' : j < (zs.map (Value.int k)).length := by rw [List.length_map]; exact hj
  rw [List.getElem?_eq_getElem hk', List.getElem_map]
theorem below_grown' {B : Nat} {a w w' : World} {e : TypeId} {k : IntKind} {v : Value} {zs : List Int} (h : Below B a w) (ho : OwnK e k w B v zs) (hB : B ≤ w.heap.size) (hg : w.grownBy w' v.ownBlock) : Below B a w' :=
  h.trans ((Below.refl _ _).grown hg hB (ownBlock_base ho))

set_option maxRecDepth 100000 in
set_option maxHeartbeats 1600000 in
theorem l2Block_any (key nonce : ByteArray) (c : Int) (w : World) (hk : key.size = 32) (hn : nonce.size = 12) (hc : isU c) :
    Calls Tryz.prog 98 #[.string key, .string nonce, .int .u32 c] w fun e w' => e = .returned (.string (blkR key nonce c)) ∧ Below w.heap.size w w' := by
  have hst := firstL_st key nonce c hk hn hc
  have hps := size_pre key
  go_enter Tryz.func98, Tryz.ntmps98
  go_wp2_with fail
  change Calls _ _ #[.string (chaPre ++ key)] _ _
  refine (l1Load_any _ _ (by omega)).mono ?_
  rintro e w1 ⟨v1, rfl, ho1, hb1⟩
  have hl1 : (loadL (chaPre ++ key).data.toList).length = 12 := by
    have : (chaPre ++ key).data.toList.length = 48 := by
      rw [hk] at hps
      simpa using hps
    rw [loadL_len, this]
  have hl2 : (loadL nonce.data.toList).length = 3 := by
    have : nonce.data.toList.length = 12 := by simpa using hn
    rw [loadL_len, this]
  have hs1 := hb1.size
  have hF0 : firstL key nonce c = loadL (chaPre ++ key).data.toList ++ [c] ++ loadL nonce.data.toList := rfl
  obtain ⟨ka, hka⟩ : ∃ ka, ka = loadL (chaPre ++ key).data.toList := ⟨_, rfl⟩
  rw [← hka] at ho1 hl1 hF0
  clear hka hps
  go_wp2_with (first | (at_builtin; refine wpList_appKg Tryz.underlying90 Tryz.infoU32 (by decide) rfl (.tmp 14) (.tmp 16) rfl w.heap.size _ _ rfl (ho1.alloc _) w1.heap.size 1 _ _ [c] rfl (heap_alloc_new w1 _) rfl rfl (by decide) (by omega) (by simp; omega) ?_; intro v2 w2 ho2 hg2))
  have hb2 := below_grown' (hb1.alloc hs1 _) (ho1.alloc _) (by simp; omega) hg2
  have hs2 := hb2.size
  clear hg2 ho1 hb1 hs1
  refine (l1Load_any nonce _ (by omega)).mono ?_
  rintro e w3 ⟨v3, rfl, ho3, hb3⟩
  have ho2' := ho2.keep hb3 (Nat.le_refl _)
  have hb3' := hb2.trans (hb3.mono hs2)
  have hs3 := hb3'.size
  obtain ⟨na, hna⟩ : ∃ na, na = loadL nonce.data.toList := ⟨_, rfl⟩
  rw [← hna] at ho3 hl2 hF0
  clear hna ho2 hb2 hb3 hs2
  go_wp2_with (first | (at_builtin; refine wpList_appRow Tryz.underlying90 Tryz.infoU32 (by decide) rfl (.tmp 18) (.tmp 20) rfl w.heap.size _ _ rfl ho2' _ _ _ rfl ho3.row (by omega) (by simp; omega) hs3 ?_; intro v4 w4 ho4 hg4; have hb4 := below_grown' hb3' ho2' hs3 hg4; have hs4 := hb4.size) | (at_builtin; refine wpList_appRow Tryz.underlying90 Tryz.infoU32 (by decide) rfl (.tmp 22) (.tmp 23) rfl w4.heap.size _ _ rfl (OwnK.lit 89 .u32 w4 w4.heap.size (Nat.le_refl _)) _ _ _ rfl (ho4.alloc _).row (by simp only [List.length_append, List.length_cons, List.length_nil, hl1, hl2]; omega) (by simp only [List.length_append, List.length_cons, List.length_nil, hl1, hl2]; omega) (by simp) ?_; intro v5 w5 ho5 hg5))
  rw [← hF0] at ho4 ho5
  rw [List.nil_append] at ho5
  have hb5 : Below w4.heap.size w4 w5 := below_grown' ((Below.refl _ _).alloc (Nat.le_refl _) (.cells #[] 89)) (OwnK.lit 89 .u32 w4 w4.heap.size (Nat.le_refl _)) (by simp) hg5
  have hr4 := ho4.row
  obtain ⟨fs, hfs⟩ : ∃ fs, fs = firstL key nonce c := ⟨_, rfl⟩
  have HFS := Lib.hid hfs
  rw [← hfs] at hr4 ho5 hst
  obtain ⟨g, cap, rfl, hgb, -, -⟩ := ho5.form (fun e => by have := hst.1; rw [e] at this; cases this)
  rw [hst.1] at ho5 ⊢
  clear hg5 hg4 ho4 ho3 ho2' hb3' hs3 hF0 hl1 hl2 hfs
  go_loopw [9] (fun i wr => ∃ n : Nat, n ≤ 10 ∧ i = .int .i64 n ∧ OwnK 89 .u32 wr w4.heap.size (.slice (some ⟨g, 0, none⟩) 16 cap) (tenN n fs) ∧ Below w4.heap.size w4 wr) (fun i _ => 10 - (intOf i).toNat)
  case atStart => exact ⟨0, Nat.zero_le _, rfl, ho5, hb5⟩
  case round =>
    obtain ⟨n, hn1, rfl, h0, hb⟩ := hrel
    clear ho5 hb5
    have hs0 := tenN_st n hst
    by_cases hlt : n < 10
    · go_wp2_with fail
      refine (l2QAt_any w4.heap.size g cap _ 0 4 8 12 _ hs0 ⟨by decide, by decide, by decide, by decide, by decide, by decide, by decide, by decide, by decide, by decide⟩ h0).mono ?_
      rintro e x0 ⟨rfl, h1, hg1⟩
      replace hb := below_grown' hb h0 hb.size hg1
      replace hs0 := rnd_st 0 hs0
      replace h0 := h1
      clear h1 hg1
      go_wp2_with fail
      refine (l2QAt_any w4.heap.size g cap _ 1 5 9 13 _ hs0 ⟨by decide, by decide, by decide, by decide, by decide, by decide, by decide, by decide, by decide, by decide⟩ h0).mono ?_
      rintro e x1 ⟨rfl, h1, hg1⟩
      replace hb := below_grown' hb h0 hb.size hg1
      replace hs0 := rnd_st 1 hs0
      replace h0 := h1
      clear h1 hg1
      go_wp2_with fail
      refine (l2QAt_any w4.heap.size g cap _ 2 6 10 14 _ hs0 ⟨by decide, by decide, by decide, by decide, by decide, by decide, by decide, by decide, by decide, by decide⟩ h0).mono ?_
      rintro e x2 ⟨rfl, h1, hg1⟩
      replace hb := below_grown' hb h0 hb.size hg1
      replace hs0 := rnd_st 2 hs0
      replace h0 := h1
      clear h1 hg1
      go_wp2_with fail
      refine (l2QAt_any w4.heap.size g cap _ 3 7 11 15 _ hs0 ⟨by decide, by decide, by decide, by decide, by decide, by decide, by decide, by decide, by decide, by decide⟩ h0).mono ?_
      rintro e x3 ⟨rfl, h1, hg1⟩
      replace hb := below_grown' hb h0 hb.size hg1
      replace hs0 := rnd_st 3 hs0
      replace h0 := h1
      clear h1 hg1
      go_wp2_with fail
      refine (l2QAt_any w4.heap.size g cap _ 0 5 10 15 _ hs0 ⟨by decide, by decide, by decide, by decide, by decide, by decide, by decide, by decide, by decide, by decide⟩ h0).mono ?_
      rintro e x4 ⟨rfl, h1, hg1⟩
      replace hb := below_grown' hb h0 hb.size hg1
      replace hs0 := rnd_st 4 hs0
      replace h0 := h1
      clear h1 hg1
      go_wp2_with fail
      refine (l2QAt_any w4.heap.size g cap _ 1 6 11 12 _ hs0 ⟨by decide, by decide, by decide, by decide, by decide, by decide, by decide, by decide, by decide, by decide⟩ h0).mono ?_
      rintro e x5 ⟨rfl, h1, hg1⟩
      replace hb := below_grown' hb h0 hb.size hg1
      replace hs0 := rnd_st 5 hs0
      replace h0 := h1
      clear h1 hg1
      go_wp2_with fail
      refine (l2QAt_any w4.heap.size g cap _ 2 7 8 13 _ hs0 ⟨by decide, by decide, by decide, by decide, by decide, by decide, by decide, by decide, by decide, by decide⟩ h0).mono ?_
      rintro e x6 ⟨rfl, h1, hg1⟩
      replace hb := below_grown' hb h0 hb.size hg1
      replace hs0 := rnd_st 6 hs0
      replace h0 := h1
      clear h1 hg1
      go_wp2_with fail
      refine (l2QAt_any w4.heap.size g cap _ 3 4 9 14 _ hs0 ⟨by decide, by decide, by decide, by decide, by decide, by decide, by decide, by decide, by decide, by decide⟩ h0).mono ?_
      rintro e x7 ⟨rfl, h1, hg1⟩
      replace hb := below_grown' hb h0 hb.size hg1
      replace hs0 := rnd_st 7 hs0
      replace h0 := h1
      clear h1 hg1
      go_wp2
      go_roundw
      case rel => exact ⟨n + 1, by omega, by go_num, h0, hb⟩
      case measure => simp [intOf]; omega
    · have hn10 : n = 10 := by omega
      rw [hn10] at h0 hs0
      obtain ⟨xs, hxs⟩ : ∃ xs, xs = tenN 10 fs := ⟨_, rfl⟩
      rw [← hxs] at h0 hs0
      have HXS := Lib.hid hxs
      clear hxs
      obtain ⟨a4, cap4, rfl, hlc, hmx, hc4⟩ := hr4
      rw [hst.1] at hlc ⊢
      unfold maxLen at hmx
      obtain ⟨b4, o4, rfl, hb4l, hr4⟩ := hc4 0 (by rw [hst.1]; decide)
      clear hc4
      have HR4 := Lib.hid hr4
      clear hr4
      have hsl := sumL_len hs0.1 hst.1
      go_wp2
      go_loopw [10] (fun i wr => ∃ n : Nat, n ≤ 16 ∧ i = .int .i64 n ∧ OwnK 89 .u32 wr w4.heap.size (.slice (some ⟨g, 0, none⟩) 16 cap) ((sumL xs fs).take n ++ xs.drop n) ∧ Below w4.heap.size w4 wr) (fun i _ => 16 - (intOf i).toNat)
      case atStart => exact ⟨0, Nat.zero_le _, rfl, by simpa using h0, hb⟩
      case round =>
        obtain ⟨n, hn1, rfl, h1, hb1⟩ := hrel
        clear h0 hb hn10
        have hll : ((sumL xs fs).take n ++ xs.drop n).length = 16 := by rw [List.length_append, List.length_take, List.length_drop, hsl, hs0.1]; omega
        by_cases hlt : n < 16
        · have hx : n < xs.length := by rw [hs0.1]; exact hlt
          have hf : n < fs.length := by rw [hst.1]; exact hlt
          have c1 := ownK_cell' (w := wr.drew) h1 hll.symm n (by rw [hll]; exact hlt)
          have e1 : ((sumL xs fs).take n ++ xs.drop n)[n]'(by rw [hll]; exact hlt) = xs[n] := by
            rw [List.getElem_append_right (by simp; omega)]
            simp [hsl]
            congr 1
            omega
          rw [e1] at c1
          have f1 := OwnK.free (w := wr.drew) h1 hll.symm n
          have c2 : wr.drew.cell? ⟨b4, o4 + n, none⟩ = some (.int .u32 fs[n]) := by
            show wr.cell? ⟨b4, o4 + n, none⟩ = _
            rw [hb1.cell (p := ⟨b4, o4 + n, none⟩) hb4l, HR4.out n hf]; simp [hf]
          obtain ⟨x, hx'⟩ : ∃ x, x = xs[n] := ⟨_, rfl⟩
          obtain ⟨y, hy'⟩ : ∃ y, y = fs[n] := ⟨_, rfl⟩
          rw [← hx'] at c1
          rw [← hy'] at c2
          have hset := h1.set hll.symm n (add32 x y)
          rw [hx', hy', sumL_step hsl n hx hf, ← hx', ← hy'] at hset
          have hb2 := hb1.setCell (p := ⟨g, n, none⟩) hgb (.int .u32 (add32 x y))
          have hw := wrap_add32 x y
          have HS := Lib.hid hset
          have HB2 := Lib.hid hb2
          clear e1 hset hb2 hx' hy' h1 hb1
          go_wp2
          go_still_tail 12, (by kernel_rfl)
          change wpList _ _ _ _ _ wr.drew
          go_wp2
          go_roundw
          case rel => exact ⟨n + 1, by omega, by go_num, HS.out, below_drewN HB2.out 1⟩
          case measure => simp [intOf]; omega
        · have hn16 : n = 16 := by omega
          subst hn16
          have e2 : (sumL xs fs).take 16 ++ xs.drop 16 = sumL xs fs := by
            rw [List.take_of_length_le (by rw [hsl]; exact Nat.le_refl _), List.drop_eq_nil_of_le (by rw [hs0.1]; exact Nat.le_refl _), List.append_nil]
          rw [e2] at h1
          have hwd : ∀ n ∈ sumL xs fs, 0 ≤ n ∧ n ≤ 4294967295 := fun n hn => by
            unfold sumL at hn
            rw [List.mem_iff_getElem] at hn
            obtain ⟨k, hk, rfl⟩ := hn
            rw [List.getElem_zipWith]
            exact add32_u _ _
          have hbw := hb4.trans (hb1.mono hs4)
          have HBK : Hid (blkR key nonce c = ⟨(storeL (sumL xs fs)).toArray⟩) := Lib.hid (by rw [HXS.out, HFS.out]; rfl)
          have HW := Lib.hid hwd
          clear e2 hll hwd
          go_wp2_with fail
          refine (l1Store_any _ _ _ _ h1.row HW.out (by rw [hsl]; decide)).mono ?_
          rintro e w9 ⟨rfl, hb9⟩
          go_wp2
          go_ret
          exact ⟨ret_str HBK.out.symm, hbw.trans (hb9.mono hbw.size)⟩
end Go.Proofs.YtfjaincogbdeiaaGreatDoor
