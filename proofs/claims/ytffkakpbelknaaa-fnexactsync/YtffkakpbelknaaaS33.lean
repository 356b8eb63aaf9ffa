/- Joined: W14j. -/
import Derived.Test.YtffkakpbelknaaaS21
import Derived.Test.YtffkakpbelknaaaS31
import Derived.Test.YtffkakpbelknaaaS32
/- W14j -/
namespace Go.Proofs.Ytffkakpbelknaaa
open Go.ChangeShapes Go.WideShapes Go.ChangeAt Go.RowKit
set_option linter.unusedVariables false

theorem Try.methodAp (v : Value) (w : World) : (method 332 180 v "loop.example/g00569/impl.file").run Try.prog w = .ok (189, v) w := by kernel_rfl
theorem Try.methodRn (v : Value) (w : World) : (method 332 182 v "loop.example/g00569/impl.file").run Try.prog w = .ok (190, v) w := by kernel_rfl
theorem Try.methodRm (v : Value) (w : World) : (method 332 184 v "loop.example/g00569/impl.file").run Try.prog w = .ok (191, v) w := by kernel_rfl
theorem Try.asAA (x : Value) (w : World) : (Instr.typeAssert (.iface 180 x) 125 180 true).run Try.prog w = .ok (.tuple #[x, .bool true]) w := by kernel_rfl
theorem Try.asRA (x : Value) (w : World) : (Instr.typeAssert (.iface 182 x) 125 180 true).run Try.prog w = .ok (.tuple #[.agg #[.string ByteArray.empty, .string ByteArray.empty], .bool false]) w := by kernel_rfl
theorem Try.asRR (x : Value) (w : World) : (Instr.typeAssert (.iface 182 x) 125 182 true).run Try.prog w = .ok (.tuple #[x, .bool true]) w := by kernel_rfl
theorem Try.asMA (x : Value) (w : World) : (Instr.typeAssert (.iface 184 x) 125 180 true).run Try.prog w = .ok (.tuple #[.agg #[.string ByteArray.empty, .string ByteArray.empty], .bool false]) w := by kernel_rfl
theorem Try.asMR (x : Value) (w : World) : (Instr.typeAssert (.iface 184 x) 125 182 true).run Try.prog w = .ok (.tuple #[.agg #[.string ByteArray.empty, .string ByteArray.empty], .bool false]) w := by kernel_rfl
theorem Try.asMM (x : Value) (w : World) : (Instr.typeAssert (.iface 184 x) 125 184 true).run Try.prog w = .ok (.tuple #[x, .bool true]) w := by kernel_rfl
theorem fileAp_any (s t : ByteArray) (w : World) :
    Calls Try.prog 189 #[.agg #[.string s, .string t]] w fun e w' => e = .returned (.string s) ∧ Below w.heap.size w w' := by
  go_enter Try.func189, Try.ntmps189
  go_wp2
  go_ret
  exact ⟨rfl, (Below.refl _ _).alloc (Nat.le_refl _) _⟩
theorem fileRn_any (s t : ByteArray) (w : World) :
    Calls Try.prog 190 #[.agg #[.string s, .string t]] w fun e w' => e = .returned (.string s) ∧ Below w.heap.size w w' := by
  go_enter Try.func190, Try.ntmps190
  go_wp2
  go_ret
  exact ⟨rfl, (Below.refl _ _).alloc (Nat.le_refl _) _⟩
theorem fileRm_any (s : ByteArray) (w : World) :
    Calls Try.prog 191 #[.agg #[.string s]] w fun e w' => e = .returned (.string s) ∧ Below w.heap.size w w' := by
  go_enter Try.func191, Try.ntmps191
  go_wp2
  go_ret
  exact ⟨rfl, (Below.refl _ _).alloc (Nat.le_refl _) _⟩

/-- What a change leaves, and whether there was something to change. -/
def chL (es : List Fi) (o : DOp) : List Fi := if o.k = 1 then fiP es o.nm (fiG es o.nm ++ o.da) else if o.k = 2 then fiP (fiX es o.nm) o.tn (fiG es o.nm) else fiX es o.nm
def chB (es : List Fi) (o : DOp) : Bool := if o.k = 1 then true else fnB (fiKs es) o.nm
def OutCh (v : Value) (es : List Fi) (o : DOp) (w : World) (e : Ending) (w' : World) : Prop := ∃ v', e = .returned (.tuple #[v', .bool (chB es o)]) ∧ (chB es o = true → OwnR 167 2 fiC w' w.heap.size v' (chL es o)) ∧ (chB es o = false → v' = v) ∧ Below w.heap.size w w'

set_option maxRecDepth 100000 in
set_option maxHeartbeats 1600000 in
theorem changed_ap (v : Value) (es : List Fi) (nm da : ByteArray) (w : World) (h : FiAt w w.heap.size v es) (hr : risB (fiKs es) = true) (hn : es.length ≤ 800) (hs : fiSum es ≤ 1000000000000) (hd : da.size ≤ 1000000000000) :
    Calls Try.prog 90 #[v, .iface 180 (.agg #[.string nm, .string da])] w fun e w' => ∃ v', e = .returned (.tuple #[v', .bool true]) ∧ OwnR 167 2 fiC w' w.heap.size v' (fiP es nm (fiG es nm ++ da)) ∧ Below w.heap.size w w' := by
  have hM := fun v w => Try.methodAp v w
  have hAA := fun x w => Try.asAA x w
  have HM := Lib.hid (fun w => fileAp_any nm da w)
  have HP := Lib.hid (fun w h => placeOfF_any v es nm w h (by omega) (ris_mono hr nm))
  have HFl := Lib.hid (fun h => fnF_lt (es := es) (x := nm) h)
  have HW := Lib.hid (fun w h => withF_any v es ⟨nm, fiG es nm ++ da⟩ w h hr (by omega))
  have HWe : Hid (putP es (plK (fiKs es) nm) (fnB (fiKs es) nm) ⟨nm, fiG es nm ++ da⟩ = fiP es nm (fiG es nm ++ da)) := Lib.hid rfl
  simp only [HWe.out] at HW
  have hgs := fiG_sum es nm
  have HG : Hid (fiG es nm = if fnB (fiKs es) nm then (es[plK (fiKs es) nm]?.getD ⟨ByteArray.empty, ByteArray.empty⟩).da else ByteArray.empty) := Lib.hid rfl
  generalize fiG es nm = G at HW hgs HG ⊢
  generalize fiP es nm (G ++ da) = FP at HW ⊢
  generalize plK (fiKs es) nm = p at HP HFl HG
  generalize fnB (fiKs es) nm = f at HP HFl HG
  clear HWe hr
  have HI := Lib.hid h
  obtain ⟨a, cap, rfl, hl, hm, hc⟩ := h.raw
  unfold maxLen at hm
  clear h hc
  have hcat : G.size + da.size ≤ 9223372036854775807 := by omega
  cases f with
  | false =>
    obtain rfl : G = ByteArray.empty := HG.out
    go_enter Try.func90, Try.ntmps90
    go_wp2_with fail
    refine (HM.out _).mono ?_
    rintro e w1 ⟨rfl, hb1⟩
    go_wp2_with fail
    refine (HP.out _ ((HI.out.below hb1).mono hb1.size)).mono ?_
    rintro e w2 ⟨rfl, hb2⟩
    have hB2 := hb1.trans (hb2.mono hb1.size)
    clear hb2 hb1 hM
    have hB3 : Below w.heap.size w (w2.alloc (.cells #[.string nm, .string da] 180)) := hB2.alloc hB2.size _
    go_wp2_with fail
    refine (HW.out _ ((HI.out.below hB3).mono hB3.size)).mono ?_
    rintro e w3 ⟨v3, rfl, hown3, hb3⟩
    go_wp2
    go_ret2
    exact ⟨v3, rfl, hown3.base_mono hB3.size, hB3.trans (hb3.mono hB3.size)⟩
  | true =>
    have hpl := HFl.out rfl
    have hGe : G = es[p].da := by rw [HG.out, if_pos rfl, List.getElem?_eq_getElem hpl]; rfl
    have hpd : decide ((p : Int) < (es.length : Int)) = true := decide_eq_true (by omega)
    have HCC : Hid (∀ w1, Below w.heap.size w w1 → ∃ b off, a = some ⟨b, off, none⟩ ∧ w1.cell? ⟨b, off + p * 2 + 1, none⟩ = some (.string G)) := Lib.hid (fun w1 hb1 => by
      obtain ⟨a2, cap2, hv2, _, _, hc2⟩ := (HI.out.below hb1).raw
      cases hv2
      obtain ⟨b2, off2, rfl, _, hr2⟩ := hc2 p hpl
      obtain ⟨d0, d1, _, _⟩ := hr2 p hpl
      rw [hGe]
      exact ⟨b2, off2, rfl, d1⟩)
    clear hGe HG
    go_enter Try.func90, Try.ntmps90
    go_wp2_with fail
    refine (HM.out _).mono ?_
    rintro e w1 ⟨rfl, hb1⟩
    go_wp2_with fail
    refine (HP.out _ ((HI.out.below hb1).mono hb1.size)).mono ?_
    rintro e w2 ⟨rfl, hb2⟩
    have hB2 := hb1.trans (hb2.mono hb1.size)
    clear hb2 hb1 hM
    have hB3 : Below w.heap.size w (w2.alloc (.cells #[.string nm, .string da] 180)) := hB2.alloc hB2.size _
    obtain ⟨b, off, rfl, c1⟩ := HCC.out w2 hB2
    go_wp2_with fail
    refine (HW.out _ ((HI.out.below hB3).mono hB3.size)).mono ?_
    rintro e w3 ⟨v3, rfl, hown3, hb3⟩
    go_wp2
    go_ret2
    exact ⟨v3, rfl, hown3.base_mono hB3.size, hB3.trans (hb3.mono hB3.size)⟩
end Go.Proofs.Ytffkakpbelknaaa
