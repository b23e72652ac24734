/-
  What pins' Wrong, Stream, Write and Cycle answer is what they must (chapter 12): ppi_wrong, ppi_stream, ppi_write, ppi_cycle.
-/
import Derived.Test.YtkangeheamknoaaPiP4
import Derived.Test.YtkangeheamknoaaPiP6
